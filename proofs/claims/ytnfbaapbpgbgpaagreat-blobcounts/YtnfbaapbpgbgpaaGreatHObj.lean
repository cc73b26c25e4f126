import Derived.Test.YtnfbaapbpgbgpaaGreatHSmall
import Derived.Test.YtnfbaapbpgbgpaaGreatBlQ
import Derived.Deep.RegionHeld3
namespace Go.Proofs.YtnfbaapbpgbgpaaGreat
open Go.ChangeShapes Go.WideShapes Go.ChangeAt Go.RowKit
set_option linter.unusedVariables false
set_option maxRecDepth 100000
set_option maxHeartbeats 1000000
theorem fit_grow {w:World}{ph pa U s half limit large wn:Nat} (hU:U≤1048576) (hs:s≤1048576) (hh:half≤1048576) (hl:limit≤1048576) (hlg:large≤limit) (hw:wn≤16777216) (R:World→Prop)
  (e0:w.cell? ⟨ph,0,none⟩=some (.int .i64 (limit:Nat))) (e1:w.cell? ⟨ph,1,none⟩=some (.pointer (some ⟨pa,0,none⟩))) (e9:w.cell? ⟨ph,9,none⟩=some (.int .i64 (large:Nat)))
  (HU:∀ W,Still w W→Calls Tryz.prog 64 #[.pointer (some ⟨pa,0,none⟩)] W fun e w'=>e=.returned (.int .i64 (U:Nat))∧w'=W)
  (HS:∀ W,Still w W→Calls Tryz.prog 63 #[.pointer (some ⟨pa,0,none⟩)] W fun e w'=>e=.returned (.int .i64 (half:Nat))∧w'=W)
  (HW:∀ W,Calls Tryz.prog 114 #[.int .i64 ((U+s:Nat):Int)] W fun e w'=>e=.returned (.int .i64 (wn:Nat))∧w'=W)
  (h1:3*half<4*(U+s)) (h2:half<min wn ((limit-large) / 2))
  (HB:∀ W,Still w W→Calls Tryz.prog 90 #[.pointer (some ⟨ph,0,none⟩),.int .i64 (min wn ((limit-large) / 2):Nat)] W fun e w'=>e=.returned (.tuple #[])∧R w'):
  Calls Tryz.prog 71 #[.pointer (some ⟨ph,0,none⟩),.int .i64 (s:Nat)] w fun e w'=>e=.returned (.tuple #[])∧R w':=by
 have H1:=hide HU
 have H2:=hide HS
 have H3:=hide HW
 obtain ⟨Y,hY⟩:∃ Y,limit-large=Y:=⟨_,rfl⟩
 obtain ⟨T,hT⟩:∃ T,Y / 2=T:=⟨_,rfl⟩
 have hT':(Y:Int) / 2=(T:Nat):=by omega
 rw[hY,hT] at HB h2
 have H4a:Hid (∀ W,Still w W→T≤wn→Calls Tryz.prog 90 #[.pointer (some ⟨ph,0,none⟩),.int .i64 (T:Nat)] W fun e w'=>e=.returned (.tuple #[])∧R w'):=hide (fun W k q=>by have:=HB W k;rw[Nat.min_eq_right q] at this;exact this)
 have H4b:Hid (∀ W,Still w W→wn≤T→Calls Tryz.prog 90 #[.pointer (some ⟨ph,0,none⟩),.int .i64 (wn:Nat)] W fun e w'=>e=.returned (.tuple #[])∧R w'):=hide (fun W k q=>by have:=HB W k;rw[Nat.min_eq_left q] at this;exact this)
 have a1:IntKind.i64.wrap ((U:Int)+(s:Nat))=((U+s:Nat):Int):=by rw[show (U:Int)+(s:Nat)=((U+s:Nat):Int) by omega];exact wrap_nat _ (by omega)
 obtain ⟨u,hu⟩:∃ u,U+s=u:=⟨_,rfl⟩
 rw[hu] at a1 H3 h1
 have a2:IntKind.i64.wrap (4*(u:Int))=4*(u:Int):=by rw[show 4*(u:Int)=((4*u:Nat):Int) by omega];exact wrap_nat _ (by omega)
 have a3:IntKind.i64.wrap (3*(half:Int))=3*(half:Int):=by rw[show 3*(half:Int)=((3*half:Nat):Int) by omega];exact wrap_nat _ (by omega)
 have d1:decide (3*(half:Int)<4*(u:Int))=true:=decide_eq_true (by omega)
 have a4:IntKind.i64.wrap ((limit:Int)-(large:Nat))=(Y:Int):=by rw[show (limit:Int)-(large:Nat)=((limit-large:Nat):Int) by omega,hY];exact wrap_nat _ (by omega)
 have a5:IntKind.i64.wrap (T:Int)=(T:Int):=wrap_nat _ (by omega)
 clear HU HS HW HB
 by_cases hc:T<wn
 ·have H4:=hide (fun W k=>unhide H4a W k (by omega))
  clear H4a H4b
  go_enter Tryz.func71,Tryz.ntmps71
  go_wp2
  go_region_held3 (fun w'=>w'.cell? ⟨ph,1,none⟩=some (.pointer (some ⟨pa,0,none⟩))) (go_keep) (first|(go_at_call 64;refine (unhide H1 w.drew ⟨rfl,rfl,rfl,rfl⟩).mono ?_;rintro e w5 ⟨rfl,rfl⟩)|(go_at_call 63;refine (unhide H2 w.drew ⟨rfl,rfl,rfl,rfl⟩).mono ?_;rintro e w5 ⟨rfl,rfl⟩))
  all_goals go_wp2
  all_goals go_region_held3 (fun w'=>w'.cell? ⟨ph,0,none⟩=some (.int .i64 (limit:Nat))∧w'.cell? ⟨ph,9,none⟩=some (.int .i64 (large:Nat))) (go_keep) (first|(go_at_call 114;refine (unhide H3 w.drew.drew).mono ?_;rintro e w5 ⟨rfl,rfl⟩))
  all_goals go_wp2_with fail
  all_goals try (exfalso;omega)
  all_goals refine (unhide H4 w.drew.drew ⟨rfl,rfl,rfl,rfl⟩).mono ?_
  all_goals (rintro e w6 ⟨rfl,hR⟩)
  all_goals go_wp2
  all_goals refine bodyPost_ret (results_none rfl _ _ _) rfl ?_
  all_goals exact ⟨rfl,hR⟩
 ·have H4:=hide (fun W k=>unhide H4b W k (by omega))
  clear H4a H4b
  go_enter Tryz.func71,Tryz.ntmps71
  go_wp2
  go_region_held3 (fun w'=>w'.cell? ⟨ph,1,none⟩=some (.pointer (some ⟨pa,0,none⟩))) (go_keep) (first|(go_at_call 64;refine (unhide H1 w.drew ⟨rfl,rfl,rfl,rfl⟩).mono ?_;rintro e w5 ⟨rfl,rfl⟩)|(go_at_call 63;refine (unhide H2 w.drew ⟨rfl,rfl,rfl,rfl⟩).mono ?_;rintro e w5 ⟨rfl,rfl⟩))
  all_goals go_wp2
  all_goals go_region_held3 (fun w'=>w'.cell? ⟨ph,0,none⟩=some (.int .i64 (limit:Nat))∧w'.cell? ⟨ph,9,none⟩=some (.int .i64 (large:Nat))) (go_keep) (first|(go_at_call 114;refine (unhide H3 w.drew.drew).mono ?_;rintro e w5 ⟨rfl,rfl⟩))
  all_goals go_wp2_with fail
  all_goals try (exfalso;omega)
  all_goals refine (unhide H4 w.drew.drew ⟨rfl,rfl,rfl,rfl⟩).mono ?_
  all_goals (rintro e w6 ⟨rfl,hR⟩)
  all_goals go_wp2
  all_goals refine bodyPost_ret (results_none rfl _ _ _) rfl ?_
  all_goals exact ⟨rfl,hR⟩
theorem fit_stay {w:World}{ph pa U s half limit large wn:Nat} (hU:U≤1048576) (hs:s≤1048576) (hh:half≤1048576) (hl:limit≤1048576) (hlg:large≤limit) (hw:wn≤16777216) (R:World→Prop)
  (e0:w.cell? ⟨ph,0,none⟩=some (.int .i64 (limit:Nat))) (e1:w.cell? ⟨ph,1,none⟩=some (.pointer (some ⟨pa,0,none⟩))) (e9:w.cell? ⟨ph,9,none⟩=some (.int .i64 (large:Nat)))
  (HU:∀ W,Still w W→Calls Tryz.prog 64 #[.pointer (some ⟨pa,0,none⟩)] W fun e w'=>e=.returned (.int .i64 (U:Nat))∧w'=W)
  (HS:∀ W,Still w W→Calls Tryz.prog 63 #[.pointer (some ⟨pa,0,none⟩)] W fun e w'=>e=.returned (.int .i64 (half:Nat))∧w'=W)
  (HW:∀ W,Calls Tryz.prog 114 #[.int .i64 ((U+s:Nat):Int)] W fun e w'=>e=.returned (.int .i64 (wn:Nat))∧w'=W)
  (h1:3*half<4*(U+s)) (h2:min wn ((limit-large) / 2)≤half):
  Calls Tryz.prog 71 #[.pointer (some ⟨ph,0,none⟩),.int .i64 (s:Nat)] w fun e w'=>e=.returned (.tuple #[])∧Still w w':=by
 have H1:=hide HU
 have H2:=hide HS
 have H3:=hide HW
 have a1:IntKind.i64.wrap ((U:Int)+(s:Nat))=((U+s:Nat):Int):=by rw[show (U:Int)+(s:Nat)=((U+s:Nat):Int) by omega];exact wrap_nat _ (by omega)
 obtain ⟨u,hu⟩:∃ u,U+s=u:=⟨_,rfl⟩
 rw[hu] at a1 H3 h1
 have a2:IntKind.i64.wrap (4*(u:Int))=4*(u:Int):=by rw[show 4*(u:Int)=((4*u:Nat):Int) by omega];exact wrap_nat _ (by omega)
 have a3:IntKind.i64.wrap (3*(half:Int))=3*(half:Int):=by rw[show 3*(half:Int)=((3*half:Nat):Int) by omega];exact wrap_nat _ (by omega)
 have a8:IntKind.i64.wrap (8*(u:Int))=8*(u:Int):=by rw[show 8*(u:Int)=((8*u:Nat):Int) by omega];exact wrap_nat _ (by omega)
 obtain ⟨Y,hY⟩:∃ Y,limit-large=Y:=⟨_,rfl⟩
 obtain ⟨T,hT⟩:∃ T,Y / 2=T:=⟨_,rfl⟩
 have hT':(Y:Int) / 2=(T:Nat):=by omega
 rw[hY,hT] at h2
 have d1:decide (3*(half:Int)<4*(u:Int))=true:=decide_eq_true (by omega)
 have a4:IntKind.i64.wrap ((limit:Int)-(large:Nat))=(Y:Int):=by rw[show (limit:Int)-(large:Nat)=((limit-large:Nat):Int) by omega,hY];exact wrap_nat _ (by omega)
 have a5:IntKind.i64.wrap (T:Int)=(T:Int):=wrap_nat _ (by omega)
 have h2':wn≤half∨T≤half:=by rcases Nat.le_total wn T with q|q;rw[Nat.min_eq_left q] at h2;exact .inl h2;rw[Nat.min_eq_right q] at h2;exact .inr h2
 clear HU HS HW h2
 go_enter Tryz.func71,Tryz.ntmps71
 go_wp2
 go_region_held3 (fun w'=>w'.cell? ⟨ph,1,none⟩=some (.pointer (some ⟨pa,0,none⟩))) (go_keep) (first|(go_at_call 64;refine (unhide H1 w.drew ⟨rfl,rfl,rfl,rfl⟩).mono ?_;rintro e w5 ⟨rfl,rfl⟩)|(go_at_call 63;refine (unhide H2 w.drew ⟨rfl,rfl,rfl,rfl⟩).mono ?_;rintro e w5 ⟨rfl,rfl⟩))
 all_goals go_wp2
 all_goals go_region_held3 (fun w'=>w'.cell? ⟨ph,0,none⟩=some (.int .i64 (limit:Nat))∧w'.cell? ⟨ph,9,none⟩=some (.int .i64 (large:Nat))) (go_keep) (first|(go_at_call 114;refine (unhide H3 w.drew.drew).mono ?_;rintro e w5 ⟨rfl,rfl⟩))
 all_goals go_wp2_with fail
 all_goals try (exfalso;omega)
 all_goals refine bodyPost_ret (results_none rfl _ _ _) rfl ?_
 all_goals exact ⟨rfl,⟨rfl,rfl,rfl,rfl⟩⟩
theorem fit_shrink {w:World}{ph pa U s half limit large wn:Nat} (hU:U≤1048576) (hs:s≤1048576) (hh:half≤1048576) (hl:limit≤1048576) (hlg:large≤limit) (hw:wn≤16777216) (R:World→Prop)
  (e0:w.cell? ⟨ph,0,none⟩=some (.int .i64 (limit:Nat))) (e1:w.cell? ⟨ph,1,none⟩=some (.pointer (some ⟨pa,0,none⟩))) (e9:w.cell? ⟨ph,9,none⟩=some (.int .i64 (large:Nat)))
  (HU:∀ W,Still w W→Calls Tryz.prog 64 #[.pointer (some ⟨pa,0,none⟩)] W fun e w'=>e=.returned (.int .i64 (U:Nat))∧w'=W)
  (HS:∀ W,Still w W→Calls Tryz.prog 63 #[.pointer (some ⟨pa,0,none⟩)] W fun e w'=>e=.returned (.int .i64 (half:Nat))∧w'=W)
  (HW:∀ W,Calls Tryz.prog 114 #[.int .i64 ((U+s:Nat):Int)] W fun e w'=>e=.returned (.int .i64 (wn:Nat))∧w'=W)
  (h1:4*(U+s)≤3*half) (h2:64<half) (h3:8*(U+s)<half)
  (HB:∀ W,Still w W→Calls Tryz.prog 90 #[.pointer (some ⟨ph,0,none⟩),.int .i64 (wn:Nat)] W fun e w'=>e=.returned (.tuple #[])∧R w'):
  Calls Tryz.prog 71 #[.pointer (some ⟨ph,0,none⟩),.int .i64 (s:Nat)] w fun e w'=>e=.returned (.tuple #[])∧R w':=by
 have H1:=hide HU
 have H2:=hide HS
 have H3:=hide HW
 have a1:IntKind.i64.wrap ((U:Int)+(s:Nat))=((U+s:Nat):Int):=by rw[show (U:Int)+(s:Nat)=((U+s:Nat):Int) by omega];exact wrap_nat _ (by omega)
 obtain ⟨u,hu⟩:∃ u,U+s=u:=⟨_,rfl⟩
 rw[hu] at a1 H3 h1
 have a2:IntKind.i64.wrap (4*(u:Int))=4*(u:Int):=by rw[show 4*(u:Int)=((4*u:Nat):Int) by omega];exact wrap_nat _ (by omega)
 have a3:IntKind.i64.wrap (3*(half:Int))=3*(half:Int):=by rw[show 3*(half:Int)=((3*half:Nat):Int) by omega];exact wrap_nat _ (by omega)
 have a8:IntKind.i64.wrap (8*(u:Int))=8*(u:Int):=by rw[show 8*(u:Int)=((8*u:Nat):Int) by omega];exact wrap_nat _ (by omega)
 rw[hu] at h3
 have d1:decide (3*(half:Int)<4*(u:Int))=false:=decide_eq_false (by omega)
 have d2:decide ((64:Int)<(half:Nat))=true:=decide_eq_true (by omega)
 have d3:decide (8*(u:Int)<(half:Nat))=true:=decide_eq_true (by omega)
 have H4:=hide HB
 clear HU HS HW HB
 go_enter Tryz.func71,Tryz.ntmps71
 go_wp2
 go_region_held3 (fun w'=>w'.cell? ⟨ph,1,none⟩=some (.pointer (some ⟨pa,0,none⟩))) (go_keep) (first|(go_at_call 64;refine (unhide H1 w.drew ⟨rfl,rfl,rfl,rfl⟩).mono ?_;rintro e w5 ⟨rfl,rfl⟩)|(go_at_call 63;refine (unhide H2 w.drew ⟨rfl,rfl,rfl,rfl⟩).mono ?_;rintro e w5 ⟨rfl,rfl⟩))
 all_goals go_wp2_with fail
 all_goals refine (unhide H3 w.drew).mono ?_
 all_goals (rintro e w6 ⟨rfl,rfl⟩)
 all_goals go_wp2_with fail
 all_goals refine (unhide H4 w.drew ⟨rfl,rfl,rfl,rfl⟩).mono ?_
 all_goals (rintro e w7 ⟨rfl,hR⟩)
 all_goals go_wp2
 all_goals go_end0
 all_goals exact ⟨rfl,hR⟩
theorem fit_keep {w:World}{ph pa U s half limit large wn:Nat} (hU:U≤1048576) (hs:s≤1048576) (hh:half≤1048576) (hl:limit≤1048576) (hlg:large≤limit) (hw:wn≤16777216) (R:World→Prop)
  (e0:w.cell? ⟨ph,0,none⟩=some (.int .i64 (limit:Nat))) (e1:w.cell? ⟨ph,1,none⟩=some (.pointer (some ⟨pa,0,none⟩))) (e9:w.cell? ⟨ph,9,none⟩=some (.int .i64 (large:Nat)))
  (HU:∀ W,Still w W→Calls Tryz.prog 64 #[.pointer (some ⟨pa,0,none⟩)] W fun e w'=>e=.returned (.int .i64 (U:Nat))∧w'=W)
  (HS:∀ W,Still w W→Calls Tryz.prog 63 #[.pointer (some ⟨pa,0,none⟩)] W fun e w'=>e=.returned (.int .i64 (half:Nat))∧w'=W)
  (HW:∀ W,Calls Tryz.prog 114 #[.int .i64 ((U+s:Nat):Int)] W fun e w'=>e=.returned (.int .i64 (wn:Nat))∧w'=W)
  (h1:4*(U+s)≤3*half) (h2:¬ (64<half∧8*(U+s)<half)):
  Calls Tryz.prog 71 #[.pointer (some ⟨ph,0,none⟩),.int .i64 (s:Nat)] w fun e w'=>e=.returned (.tuple #[])∧Still w w':=by
 have H1:=hide HU
 have H2:=hide HS
 have H3:=hide HW
 have a1:IntKind.i64.wrap ((U:Int)+(s:Nat))=((U+s:Nat):Int):=by rw[show (U:Int)+(s:Nat)=((U+s:Nat):Int) by omega];exact wrap_nat _ (by omega)
 obtain ⟨u,hu⟩:∃ u,U+s=u:=⟨_,rfl⟩
 rw[hu] at a1 H3 h1
 have a2:IntKind.i64.wrap (4*(u:Int))=4*(u:Int):=by rw[show 4*(u:Int)=((4*u:Nat):Int) by omega];exact wrap_nat _ (by omega)
 have a3:IntKind.i64.wrap (3*(half:Int))=3*(half:Int):=by rw[show 3*(half:Int)=((3*half:Nat):Int) by omega];exact wrap_nat _ (by omega)
 have a8:IntKind.i64.wrap (8*(u:Int))=8*(u:Int):=by rw[show 8*(u:Int)=((8*u:Nat):Int) by omega];exact wrap_nat _ (by omega)
 rw[hu] at h2
 have d1:decide (3*(half:Int)<4*(u:Int))=false:=decide_eq_false (by omega)
 clear HU HS HW
 by_cases h64:64<half
 ·have d2:decide ((64:Int)<(half:Nat))=true:=decide_eq_true (by omega)
  have d3:decide (8*(u:Int)<(half:Nat))=false:=decide_eq_false (by omega)
  go_enter Tryz.func71,Tryz.ntmps71
  go_wp2
  go_region_held3 (fun w'=>w'.cell? ⟨ph,1,none⟩=some (.pointer (some ⟨pa,0,none⟩))) (go_keep) (first|(go_at_call 64;refine (unhide H1 w.drew ⟨rfl,rfl,rfl,rfl⟩).mono ?_;rintro e w5 ⟨rfl,rfl⟩)|(go_at_call 63;refine (unhide H2 w.drew ⟨rfl,rfl,rfl,rfl⟩).mono ?_;rintro e w5 ⟨rfl,rfl⟩))
  all_goals go_wp2
  all_goals go_end0
  all_goals exact ⟨rfl,⟨rfl,rfl,rfl,rfl⟩⟩
 ·have d2:decide ((64:Int)<(half:Nat))=false:=decide_eq_false (by omega)
  go_enter Tryz.func71,Tryz.ntmps71
  go_wp2
  go_region_held3 (fun w'=>w'.cell? ⟨ph,1,none⟩=some (.pointer (some ⟨pa,0,none⟩))) (go_keep) (first|(go_at_call 64;refine (unhide H1 w.drew ⟨rfl,rfl,rfl,rfl⟩).mono ?_;rintro e w5 ⟨rfl,rfl⟩)|(go_at_call 63;refine (unhide H2 w.drew ⟨rfl,rfl,rfl,rfl⟩).mono ?_;rintro e w5 ⟨rfl,rfl⟩))
  all_goals go_wp2
  all_goals go_end0
  all_goals exact ⟨rfl,⟨rfl,rfl,rfl,rfl⟩⟩
theorem passes_any {w:World}{ph pa half limit large b:Nat} (hh:half≤1048576) (hl:limit≤1048576) (hlg:large≤1048576) (hb:b≤4194304)
  (e0:w.cell? ⟨ph,0,none⟩=some (.int .i64 (limit:Nat))) (e1:w.cell? ⟨ph,1,none⟩=some (.pointer (some ⟨pa,0,none⟩))) (e9:w.cell? ⟨ph,9,none⟩=some (.int .i64 (large:Nat)))
  (HS:∀ W,Still w W→Calls Tryz.prog 63 #[.pointer (some ⟨pa,0,none⟩)] W fun e w'=>e=.returned (.int .i64 (half:Nat))∧w'=W):
  Calls Tryz.prog 116 #[.pointer (some ⟨ph,0,none⟩),.int .i64 (b:Nat)] w fun e w'=>e=.returned (.bool (decide (limit<2*half+large+b)))∧Still w w':=by
 have H2:=hide HS
 have a1:IntKind.i64.wrap (2*(half:Int))=2*(half:Int):=by rw[show 2*(half:Int)=((2*half:Nat):Int) by omega];exact wrap_nat _ (by omega)
 have a2:IntKind.i64.wrap (2*(half:Int)+(large:Nat))=2*(half:Int)+(large:Nat):=by rw[show 2*(half:Int)+(large:Nat)=((2*half+large:Nat):Int) by omega];exact wrap_nat _ (by omega)
 have a3:IntKind.i64.wrap (2*(half:Int)+(large:Nat)+(b:Nat))=2*(half:Int)+(large:Nat)+(b:Nat):=by rw[show 2*(half:Int)+(large:Nat)+(b:Nat)=((2*half+large+b:Nat):Int) by omega];exact wrap_nat _ (by omega)
 have d1:decide ((limit:Int)<2*(half:Int)+(large:Nat)+(b:Nat))=decide (limit<2*half+large+b):=decide_eq_decide.2 (by omega)
 clear HS
 go_enter Tryz.func116,Tryz.ntmps116
 go_wp2
 go_region_held3 (fun w'=>w'.cell? ⟨ph,1,none⟩=some (.pointer (some ⟨pa,0,none⟩))∧w'.cell? ⟨ph,0,none⟩=some (.int .i64 (limit:Nat))∧w'.cell? ⟨ph,9,none⟩=some (.int .i64 (large:Nat))) (go_keep) (first|(go_at_call 63;refine (unhide H2 w.drew ⟨rfl,rfl,rfl,rfl⟩).mono ?_;rintro e w5 ⟨rfl,rfl⟩))
 all_goals go_wp2
 all_goals go_ret
 all_goals refine ⟨?_,⟨rfl,rfl,rfl,rfl⟩⟩
 all_goals (first|rfl|(show Ending.returned (.bool _)=_;exact ret_bool d1))
theorem due_any {w:World}{ph pa half kept large b:Nat} (hh:half≤1048576) (hk:kept≤large) (hlg:large≤1048576) (hb:b≤4194304)
  (e1:w.cell? ⟨ph,1,none⟩=some (.pointer (some ⟨pa,0,none⟩))) (e9:w.cell? ⟨ph,9,none⟩=some (.int .i64 (large:Nat))) (e10:w.cell? ⟨ph,10,none⟩=some (.int .i64 (kept:Nat)))
  (HS:∀ W,Still w W→Calls Tryz.prog 63 #[.pointer (some ⟨pa,0,none⟩)] W fun e w'=>e=.returned (.int .i64 (half:Nat))∧w'=W):
  Calls Tryz.prog 117 #[.pointer (some ⟨ph,0,none⟩),.int .i64 (b:Nat)] w fun e w'=>e=.returned (.bool (decide (half+kept<large-kept+b)))∧Still w w':=by
 have H2:=hide HS
 obtain ⟨sn,hsn⟩:∃ sn,large-kept=sn:=⟨_,rfl⟩
 have a1:IntKind.i64.wrap ((large:Int)-(kept:Nat))=(sn:Int):=by rw[show (large:Int)-(kept:Nat)=(sn:Int) by omega];exact wrap_nat _ (by omega)
 have a2:IntKind.i64.wrap ((sn:Int)+(b:Nat))=(sn:Int)+(b:Nat):=by rw[show (sn:Int)+(b:Nat)=((sn+b:Nat):Int) by omega];exact wrap_nat _ (by omega)
 have a3:IntKind.i64.wrap ((half:Int)+(kept:Nat))=(half:Int)+(kept:Nat):=by rw[show (half:Int)+(kept:Nat)=((half+kept:Nat):Int) by omega];exact wrap_nat _ (by omega)
 have d1:decide ((half:Int)+(kept:Nat)<(sn:Int)+(b:Nat))=decide (half+kept<sn+b):=decide_eq_decide.2 (by omega)
 rw[hsn]
 clear HS hsn
 go_enter Tryz.func117,Tryz.ntmps117
 go_wp2
 try (go_quiet (fail);go_wp2)
 go_region_held3 (fun w'=>w'.cell? ⟨ph,1,none⟩=some (.pointer (some ⟨pa,0,none⟩))∧w'.cell? ⟨ph,10,none⟩=some (.int .i64 (kept:Nat))∧w'.cell? ⟨ph,9,none⟩=some (.int .i64 (large:Nat))) (go_keep) (first|(go_at_call 63;refine (unhide H2 _ ((Still.refl _).drew _)).mono ?_;rintro e w5 ⟨rfl,rfl⟩)|(go_at_call 63;refine (unhide H2 w.drew ⟨rfl,rfl,rfl,rfl⟩).mono ?_;rintro e w5 ⟨rfl,rfl⟩))
 all_goals go_wp2
 all_goals go_ret
 all_goals exact ⟨rfl,(Still.refl _).drew _⟩
theorem wrap_small (x:Int) (h1:-1000000000000≤x) (h2:x≤1000000000000):IntKind.i64.wrap x=x:=by
 rw[IntKind.wrap_i64];omega
theorem way_low {w:World}{ph pa limit large b U:Nat}{V:Int} (hl:limit≤1048576) (hlg:large≤limit) (hb:b≤4194304) (hV:((limit:Int)-(large:Nat)-(b:Nat)).tdiv 2=V)
  (e0:w.cell? ⟨ph,0,none⟩=some (.int .i64 (limit:Nat))) (e1:w.cell? ⟨ph,1,none⟩=some (.pointer (some ⟨pa,0,none⟩))) (e9:w.cell? ⟨ph,9,none⟩=some (.int .i64 (large:Nat)))
  (hlo:V<64):
  Calls Tryz.prog 118 #[.pointer (some ⟨ph,0,none⟩),.int .i64 (b:Nat)] w fun e w'=>e=.returned (.bool false)∧Still w w':=by
 obtain ⟨Z,hZ⟩:∃ Z:Int,(limit:Int)-(large:Nat)-(b:Nat)=Z:=⟨_,rfl⟩
 have a1:IntKind.i64.wrap ((limit:Int)-(large:Nat))=(limit:Int)-(large:Nat):=wrap_small _ (by omega) (by omega)
 have a2:IntKind.i64.wrap ((limit:Int)-(large:Nat)-(b:Nat))=Z:=by rw[hZ];exact wrap_small _ (by omega) (by omega)
 have hz1:Z≤10000000:=by omega
 have hz2:-10000000≤Z:=by omega
 rw[hZ] at hV
 have hv1:-10000000≤V∧V≤10000000:=by
  rw[← hV]
  by_cases q:Z<0
  ·rw[show Z = -(-Z) by omega,Int.neg_tdiv,Int.tdiv_eq_ediv_of_nonneg (by omega)];omega
  ·rw[Int.tdiv_eq_ediv_of_nonneg (by omega)];omega
 have a3:IntKind.i64.wrap V=V:=wrap_small _ (by omega) (by omega)
 clear hZ
 have d1:decide (V<64)=true:=decide_eq_true hlo
 go_enter Tryz.func118,Tryz.ntmps118
 go_wp2
 go_region_held3 (fun w'=>w'.cell? ⟨ph,0,none⟩=some (.int .i64 (limit:Nat))∧w'.cell? ⟨ph,9,none⟩=some (.int .i64 (large:Nat))) (go_keep) (fail)
 all_goals go_wp2
 all_goals go_ret
 all_goals exact ⟨rfl,⟨rfl,rfl,rfl,rfl⟩⟩
theorem way_used {w:World}{ph pa limit large b U:Nat}{V:Int} (hl:limit≤1048576) (hlg:large≤limit) (hb:b≤4194304) (hV:((limit:Int)-(large:Nat)-(b:Nat)).tdiv 2=V)
  (e0:w.cell? ⟨ph,0,none⟩=some (.int .i64 (limit:Nat))) (e1:w.cell? ⟨ph,1,none⟩=some (.pointer (some ⟨pa,0,none⟩))) (e9:w.cell? ⟨ph,9,none⟩=some (.int .i64 (large:Nat)))
  (HU:∀ W,Still w W→Calls Tryz.prog 64 #[.pointer (some ⟨pa,0,none⟩)] W fun e w'=>e=.returned (.int .i64 (U:Nat))∧w'=W) (hlo:64≤V) (hu:V<(U:Nat)):
  Calls Tryz.prog 118 #[.pointer (some ⟨ph,0,none⟩),.int .i64 (b:Nat)] w fun e w'=>e=.returned (.bool false)∧Still w w':=by
 obtain ⟨Z,hZ⟩:∃ Z:Int,(limit:Int)-(large:Nat)-(b:Nat)=Z:=⟨_,rfl⟩
 have a1:IntKind.i64.wrap ((limit:Int)-(large:Nat))=(limit:Int)-(large:Nat):=wrap_small _ (by omega) (by omega)
 have a2:IntKind.i64.wrap ((limit:Int)-(large:Nat)-(b:Nat))=Z:=by rw[hZ];exact wrap_small _ (by omega) (by omega)
 have hz1:Z≤10000000:=by omega
 have hz2:-10000000≤Z:=by omega
 rw[hZ] at hV
 have hv1:-10000000≤V∧V≤10000000:=by
  rw[← hV]
  by_cases q:Z<0
  ·rw[show Z = -(-Z) by omega,Int.neg_tdiv,Int.tdiv_eq_ediv_of_nonneg (by omega)];omega
  ·rw[Int.tdiv_eq_ediv_of_nonneg (by omega)];omega
 have a3:IntKind.i64.wrap V=V:=wrap_small _ (by omega) (by omega)
 clear hZ
 have H1:=hide HU
 clear HU
 have d1:decide (V<64)=false:=decide_eq_false (by omega)
 have d2:decide (V<(U:Nat))=true:=decide_eq_true hu
 go_enter Tryz.func118,Tryz.ntmps118
 go_wp2
 go_region_held3 (fun w'=>w'.cell? ⟨ph,0,none⟩=some (.int .i64 (limit:Nat))∧w'.cell? ⟨ph,9,none⟩=some (.int .i64 (large:Nat))) (go_keep) (fail)
 all_goals go_wp2_with fail
 all_goals refine (unhide H1 w.drew ⟨rfl,rfl,rfl,rfl⟩).mono ?_
 all_goals (rintro e w5 ⟨rfl,rfl⟩)
 all_goals go_wp2
 all_goals go_ret
 all_goals exact ⟨rfl,⟨rfl,rfl,rfl,rfl⟩⟩
theorem way_yes {w:World}{ph pa limit large b U:Nat}{V:Int} (hl:limit≤1048576) (hlg:large≤limit) (hb:b≤4194304) (hV:((limit:Int)-(large:Nat)-(b:Nat)).tdiv 2=V)
  (e0:w.cell? ⟨ph,0,none⟩=some (.int .i64 (limit:Nat))) (e1:w.cell? ⟨ph,1,none⟩=some (.pointer (some ⟨pa,0,none⟩))) (e9:w.cell? ⟨ph,9,none⟩=some (.int .i64 (large:Nat)))
  (HU:∀ W,Still w W→Calls Tryz.prog 64 #[.pointer (some ⟨pa,0,none⟩)] W fun e w'=>e=.returned (.int .i64 (U:Nat))∧w'=W) (hlo:64≤V) (hu:(U:Nat)≤V) (R:World→Prop) (HB:∀ W,Still w W→Calls Tryz.prog 90 #[.pointer (some ⟨ph,0,none⟩),.int .i64 V] W fun e w'=>e=.returned (.tuple #[])∧R w'):
  Calls Tryz.prog 118 #[.pointer (some ⟨ph,0,none⟩),.int .i64 (b:Nat)] w fun e w'=>e=.returned (.bool true)∧R w':=by
 obtain ⟨Z,hZ⟩:∃ Z:Int,(limit:Int)-(large:Nat)-(b:Nat)=Z:=⟨_,rfl⟩
 have a1:IntKind.i64.wrap ((limit:Int)-(large:Nat))=(limit:Int)-(large:Nat):=wrap_small _ (by omega) (by omega)
 have a2:IntKind.i64.wrap ((limit:Int)-(large:Nat)-(b:Nat))=Z:=by rw[hZ];exact wrap_small _ (by omega) (by omega)
 have hz1:Z≤10000000:=by omega
 have hz2:-10000000≤Z:=by omega
 rw[hZ] at hV
 have hv1:-10000000≤V∧V≤10000000:=by
  rw[← hV]
  by_cases q:Z<0
  ·rw[show Z = -(-Z) by omega,Int.neg_tdiv,Int.tdiv_eq_ediv_of_nonneg (by omega)];omega
  ·rw[Int.tdiv_eq_ediv_of_nonneg (by omega)];omega
 have a3:IntKind.i64.wrap V=V:=wrap_small _ (by omega) (by omega)
 clear hZ
 have H1:=hide HU
 have H4:=hide HB
 clear HU HB
 have d1:decide (V<64)=false:=decide_eq_false (by omega)
 have d2:decide (V<(U:Nat))=false:=decide_eq_false (by omega)
 go_enter Tryz.func118,Tryz.ntmps118
 go_wp2
 go_region_held3 (fun w'=>w'.cell? ⟨ph,0,none⟩=some (.int .i64 (limit:Nat))∧w'.cell? ⟨ph,9,none⟩=some (.int .i64 (large:Nat))) (go_keep) (fail)
 all_goals go_wp2_with fail
 all_goals refine (unhide H1 w.drew ⟨rfl,rfl,rfl,rfl⟩).mono ?_
 all_goals (rintro e w5 ⟨rfl,rfl⟩)
 all_goals go_wp2_with fail
 all_goals refine (unhide H4 w.drew ⟨rfl,rfl,rfl,rfl⟩).mono ?_
 all_goals (rintro e w6 ⟨rfl,hR⟩)
 all_goals go_wp2
 all_goals go_ret
 all_goals exact ⟨rfl,hR⟩
set_option maxHeartbeats 2000000
theorem large_walk {w:World}{ph k r s b:Nat}{G1 G2 GN:World→Prop}{G3 G4:(Nat × Nat × Nat)→World→Prop}{GY:Nat→World→Prop} (hb:b≤4194304)
  (p d:Bool) (HP:Calls Tryz.prog 116 #[.pointer (some ⟨ph,0,none⟩),.int .i64 (b:Nat)] w fun e w'=>e=.returned (.bool p)∧Still w w')
  (HD:p=false→∀ W,Still w W→Calls Tryz.prog 117 #[.pointer (some ⟨ph,0,none⟩),.int .i64 (b:Nat)] W fun e w'=>e=.returned (.bool d)∧Still w w')
  (HC:p=true∨d=true→∀ W,Still w W→Calls Tryz.prog 32 #[.pointer (some ⟨ph,0,none⟩)] W fun e w'=>e=.returned (.tuple #[])∧G1 w')
  (HN:p=false→d=false→∀ W,Still w W→G1 W)
  (HW:∀ W,G1 W→∃ q:Bool,(Calls Tryz.prog 116 #[.pointer (some ⟨ph,0,none⟩),.int .i64 (b:Nat)] W fun e w'=>e=.returned (.bool q)∧Still W w')∧(q=false→∀ W',Still W W'→G2 W')∧
   (q=true→∀ W',Still W W'→∃ y:Bool,Calls Tryz.prog 118 #[.pointer (some ⟨ph,0,none⟩),.int .i64 (b:Nat)] W' fun e w'=>e=.returned (.bool y)∧(y=true→G2 w')∧(y=false→GN w')))
  (HA:∀ W,G2 W→Calls Tryz.prog 35 #[.int .i64 (b:Nat)] W fun e w'=>∃ a:Nat × Nat × Nat,e=.returned (.pointer (some ⟨a.1,0,none⟩))∧G3 a w')
  (HL:∀ a W,G3 a W→Calls Tryz.prog 119 #[.pointer (some ⟨a.1,0,none⟩),.int .i64 (k:Nat),.int .i64 (r:Nat),.int .i64 (s:Nat)] W fun e w'=>(∃ v,e=.returned v)∧G4 a w')
  (HE:∀ a W,G4 a W→∃ lg:Nat,lg≤1048576∧W.cell? ⟨ph,9,none⟩=some (.int .i64 (lg:Nat))∧W.frozen? ⟨ph,9,none⟩=false∧
   Calls Tryz.prog 120 #[.pointer (some ⟨ph,3,none⟩),.pointer (some ⟨W.heap.size,0,none⟩)] ((W.setCell ⟨ph,9,none⟩ (.int .i64 ((lg:Int)+(b:Nat)))).alloc (.cells #[.pointer (some ⟨a.1,0,none⟩),.int .i64 0] 189)) fun e w'=>∃ n:Nat,e=.returned (.int .i64 (n:Nat))∧n≤1000000∧GY n w'):
  Calls Tryz.prog 80 #[.pointer (some ⟨ph,0,none⟩),.int .i64 (k:Nat),.int .i64 (r:Nat),.int .i64 (s:Nat),.int .i64 (b:Nat)] w fun e w'=>(∃ n:Nat,e=.returned (.tuple #[.int .u64 ((9223372036854775808+n:Nat):Int),.int .i64 0])∧GY n w')∨(e=.returned (.tuple #[.int .u64 0,.int .i64 31])∧GN w'):=by
 have H1:=hide HP
 have H2:=hide HD
 have H3:=hide HC
 have H4:=hide HN
 have H5:=hide HW
 have H6:=hide HA
 have H7:=hide HL
 have H8:=hide HE
 clear HP HD HC HN HW HA HL HE
 go_enter Tryz.func80,Tryz.ntmps80
 cases p with
 | true=>
  go_wp2_with fail
  refine (unhide H1).mono ?_
  clear H1 H2
  rintro e w1 ⟨rfl,hst1⟩
  have H3':=hide (unhide H3 (.inl (by trivial)) w1 hst1)
  clear H3 H4 hst1
  go_wp2_with fail
  refine (unhide H3').mono ?_
  clear H3'
  rintro e w2 ⟨rfl,hg1⟩
  obtain ⟨q,hq,hq0,hq1⟩:=unhide H5 w2 hg1
  have HQ:=hide hq
  have HQ0:=hide hq0
  have HQ1:=hide hq1
  clear H5 hg1 hq hq0 hq1
  cases q with
  | false=>
   go_wp2_with fail
   refine (unhide HQ).mono ?_
   clear HQ
   rintro e w3 ⟨rfl,hst3⟩
   have hg2:=unhide HQ0 (by trivial) w3 hst3
   clear HQ0 HQ1 hst3
   have HA':=hide (unhide H6 w3 hg2)
   clear H6 hg2
   go_wp2_with fail
   refine (unhide HA').mono ?_
   clear HA'
   rintro e w5 ⟨a,rfl,hg3⟩
   have HL':=hide (unhide H7 a w5 hg3)
   clear H7 hg3
   go_wp2_with fail
   refine (unhide HL').mono ?_
   clear HL'
   rintro e w6 ⟨⟨v,rfl⟩,hg4⟩
   obtain ⟨lg,hl1,c9,f9,hadd⟩:=unhide H8 a w6 hg4
   have HADD:=hide hadd
   clear H8 hg4 hadd
   have a1:IntKind.i64.wrap ((lg:Int)+(b:Nat))=(lg:Int)+(b:Nat):=wrap_small _ (by omega) (by omega)
   go_wp2_with fail
   refine (unhide HADD).mono ?_
   clear HADD
   rintro e w7 ⟨n,rfl,hn,hy⟩
   have o1:=or_top n (by omega)
   have o2:IntKind.u64.wrap (n:Int)=n:=by rw[IntKind.wrap_u64];omega
   go_wp2
   go_ret2
   exact .inl ⟨n,rfl,hy⟩
  | true=>
   go_wp2_with fail
   refine (unhide HQ).mono ?_
   clear HQ
   rintro e w3 ⟨rfl,hst3⟩
   obtain ⟨y,hy⟩:=unhide HQ1 (by trivial) w3 hst3
   have HY:=hide hy
   clear HQ0 HQ1 hst3 hy
   cases y with
   | false=>
    go_wp2_with fail
    refine (unhide HY).mono ?_
    clear HY
    rintro e w4 ⟨rfl,_,hy0⟩
    have hz:=hy0 (by trivial)
    go_wp2
    go_ret2
    exact .inr ⟨rfl,hz⟩
   | true=>
    go_wp2_with fail
    refine (unhide HY).mono ?_
    clear HY
    rintro e w4 ⟨rfl,hy1,_⟩
    have hg2:=hy1 (by trivial)
    clear hy1
    have HA':=hide (unhide H6 w4 hg2)
    clear H6 hg2
    go_wp2_with fail
    refine (unhide HA').mono ?_
    clear HA'
    rintro e w5 ⟨a,rfl,hg3⟩
    have HL':=hide (unhide H7 a w5 hg3)
    clear H7 hg3
    go_wp2_with fail
    refine (unhide HL').mono ?_
    clear HL'
    rintro e w6 ⟨⟨v,rfl⟩,hg4⟩
    obtain ⟨lg,hl1,c9,f9,hadd⟩:=unhide H8 a w6 hg4
    have HADD:=hide hadd
    clear H8 hg4 hadd
    have a1:IntKind.i64.wrap ((lg:Int)+(b:Nat))=(lg:Int)+(b:Nat):=wrap_small _ (by omega) (by omega)
    go_wp2_with fail
    refine (unhide HADD).mono ?_
    clear HADD
    rintro e w7 ⟨n,rfl,hn,hy⟩
    have o1:=or_top n (by omega)
    have o2:IntKind.u64.wrap (n:Int)=n:=by rw[IntKind.wrap_u64];omega
    go_wp2
    go_ret2
    exact .inl ⟨n,rfl,hy⟩
 | false=>
  go_wp2_with fail
  refine (unhide H1).mono ?_
  clear H1
  rintro e w1 ⟨rfl,hst1⟩
  have H2':=hide (unhide H2 (by trivial) w1 hst1)
  clear H2
  cases d with
  | true=>
   go_wp2_with fail
   refine (unhide H2').mono ?_
   clear H2' hst1
   rintro e w8 ⟨rfl,hst8⟩
   have H3':=hide (unhide H3 (.inr (by trivial)) w8 hst8)
   clear H3 H4 hst8
   go_wp2_with fail
   refine (unhide H3').mono ?_
   clear H3'
   rintro e w2 ⟨rfl,hg1⟩
   obtain ⟨q,hq,hq0,hq1⟩:=unhide H5 w2 hg1
   have HQ:=hide hq
   have HQ0:=hide hq0
   have HQ1:=hide hq1
   clear H5 hg1 hq hq0 hq1
   cases q with
   | false=>
    go_wp2_with fail
    refine (unhide HQ).mono ?_
    clear HQ
    rintro e w3 ⟨rfl,hst3⟩
    have hg2:=unhide HQ0 (by trivial) w3 hst3
    clear HQ0 HQ1 hst3
    have HA':=hide (unhide H6 w3 hg2)
    clear H6 hg2
    go_wp2_with fail
    refine (unhide HA').mono ?_
    clear HA'
    rintro e w5 ⟨a,rfl,hg3⟩
    have HL':=hide (unhide H7 a w5 hg3)
    clear H7 hg3
    go_wp2_with fail
    refine (unhide HL').mono ?_
    clear HL'
    rintro e w6 ⟨⟨v,rfl⟩,hg4⟩
    obtain ⟨lg,hl1,c9,f9,hadd⟩:=unhide H8 a w6 hg4
    have HADD:=hide hadd
    clear H8 hg4 hadd
    have a1:IntKind.i64.wrap ((lg:Int)+(b:Nat))=(lg:Int)+(b:Nat):=wrap_small _ (by omega) (by omega)
    go_wp2_with fail
    refine (unhide HADD).mono ?_
    clear HADD
    rintro e w7 ⟨n,rfl,hn,hy⟩
    have o1:=or_top n (by omega)
    have o2:IntKind.u64.wrap (n:Int)=n:=by rw[IntKind.wrap_u64];omega
    go_wp2
    go_ret2
    exact .inl ⟨n,rfl,hy⟩
   | true=>
    go_wp2_with fail
    refine (unhide HQ).mono ?_
    clear HQ
    rintro e w3 ⟨rfl,hst3⟩
    obtain ⟨y,hy⟩:=unhide HQ1 (by trivial) w3 hst3
    have HY:=hide hy
    clear HQ0 HQ1 hst3 hy
    cases y with
    | false=>
     go_wp2_with fail
     refine (unhide HY).mono ?_
     clear HY
     rintro e w4 ⟨rfl,_,hy0⟩
     have hz:=hy0 (by trivial)
     go_wp2
     go_ret2
     exact .inr ⟨rfl,hz⟩
    | true=>
     go_wp2_with fail
     refine (unhide HY).mono ?_
     clear HY
     rintro e w4 ⟨rfl,hy1,_⟩
     have hg2:=hy1 (by trivial)
     clear hy1
     have HA':=hide (unhide H6 w4 hg2)
     clear H6 hg2
     go_wp2_with fail
     refine (unhide HA').mono ?_
     clear HA'
     rintro e w5 ⟨a,rfl,hg3⟩
     have HL':=hide (unhide H7 a w5 hg3)
     clear H7 hg3
     go_wp2_with fail
     refine (unhide HL').mono ?_
     clear HL'
     rintro e w6 ⟨⟨v,rfl⟩,hg4⟩
     obtain ⟨lg,hl1,c9,f9,hadd⟩:=unhide H8 a w6 hg4
     have HADD:=hide hadd
     clear H8 hg4 hadd
     have a1:IntKind.i64.wrap ((lg:Int)+(b:Nat))=(lg:Int)+(b:Nat):=wrap_small _ (by omega) (by omega)
     go_wp2_with fail
     refine (unhide HADD).mono ?_
     clear HADD
     rintro e w7 ⟨n,rfl,hn,hy⟩
     have o1:=or_top n (by omega)
     have o2:IntKind.u64.wrap (n:Int)=n:=by rw[IntKind.wrap_u64];omega
     go_wp2
     go_ret2
     exact .inl ⟨n,rfl,hy⟩
  | false=>
   go_wp2_with fail
   refine (unhide H2').mono ?_
   clear H2' hst1
   rintro e w2 ⟨rfl,hst8⟩
   have hg1:=unhide H4 (by trivial) (by trivial) w2 hst8
   clear H3 H4 hst8
   obtain ⟨q,hq,hq0,hq1⟩:=unhide H5 w2 hg1
   have HQ:=hide hq
   have HQ0:=hide hq0
   have HQ1:=hide hq1
   clear H5 hg1 hq hq0 hq1
   cases q with
   | false=>
    go_wp2_with fail
    refine (unhide HQ).mono ?_
    clear HQ
    rintro e w3 ⟨rfl,hst3⟩
    have hg2:=unhide HQ0 (by trivial) w3 hst3
    clear HQ0 HQ1 hst3
    have HA':=hide (unhide H6 w3 hg2)
    clear H6 hg2
    go_wp2_with fail
    refine (unhide HA').mono ?_
    clear HA'
    rintro e w5 ⟨a,rfl,hg3⟩
    have HL':=hide (unhide H7 a w5 hg3)
    clear H7 hg3
    go_wp2_with fail
    refine (unhide HL').mono ?_
    clear HL'
    rintro e w6 ⟨⟨v,rfl⟩,hg4⟩
    obtain ⟨lg,hl1,c9,f9,hadd⟩:=unhide H8 a w6 hg4
    have HADD:=hide hadd
    clear H8 hg4 hadd
    have a1:IntKind.i64.wrap ((lg:Int)+(b:Nat))=(lg:Int)+(b:Nat):=wrap_small _ (by omega) (by omega)
    go_wp2_with fail
    refine (unhide HADD).mono ?_
    clear HADD
    rintro e w7 ⟨n,rfl,hn,hy⟩
    have o1:=or_top n (by omega)
    have o2:IntKind.u64.wrap (n:Int)=n:=by rw[IntKind.wrap_u64];omega
    go_wp2
    go_ret2
    exact .inl ⟨n,rfl,hy⟩
   | true=>
    go_wp2_with fail
    refine (unhide HQ).mono ?_
    clear HQ
    rintro e w3 ⟨rfl,hst3⟩
    obtain ⟨y,hy⟩:=unhide HQ1 (by trivial) w3 hst3
    have HY:=hide hy
    clear HQ0 HQ1 hst3 hy
    cases y with
    | false=>
     go_wp2_with fail
     refine (unhide HY).mono ?_
     clear HY
     rintro e w4 ⟨rfl,_,hy0⟩
     have hz:=hy0 (by trivial)
     go_wp2
     go_ret2
     exact .inr ⟨rfl,hz⟩
    | true=>
     go_wp2_with fail
     refine (unhide HY).mono ?_
     clear HY
     rintro e w4 ⟨rfl,hy1,_⟩
     have hg2:=hy1 (by trivial)
     clear hy1
     have HA':=hide (unhide H6 w4 hg2)
     clear H6 hg2
     go_wp2_with fail
     refine (unhide HA').mono ?_
     clear HA'
     rintro e w5 ⟨a,rfl,hg3⟩
     have HL':=hide (unhide H7 a w5 hg3)
     clear H7 hg3
     go_wp2_with fail
     refine (unhide HL').mono ?_
     clear HL'
     rintro e w6 ⟨⟨v,rfl⟩,hg4⟩
     obtain ⟨lg,hl1,c9,f9,hadd⟩:=unhide H8 a w6 hg4
     have HADD:=hide hadd
     clear H8 hg4 hadd
     have a1:IntKind.i64.wrap ((lg:Int)+(b:Nat))=(lg:Int)+(b:Nat):=wrap_small _ (by omega) (by omega)
     go_wp2_with fail
     refine (unhide HADD).mono ?_
     clear HADD
     rintro e w7 ⟨n,rfl,hn,hy⟩
     have o1:=or_top n (by omega)
     have o2:IntKind.u64.wrap (n:Int)=n:=by rw[IntKind.wrap_u64];omega
     go_wp2
     go_ret2
     exact .inl ⟨n,rfl,hy⟩
set_option linter.unusedSimpArgs false
set_option maxHeartbeats 1000000
theorem cmp_core {w:World}{ga gb oa ob n c1 c2:Nat} (f:Nat→Nat) (hn:n≤100000000) (h1:∀ j,j<n→w.cell? ⟨ga,oa+j,none⟩=some (.int .u8 (f j:Nat))) (h2:∀ j,j<n→w.cell? ⟨gb,ob+j,none⟩=some (.int .u8 (f j:Nat))):
  Calls Tryz.prog 46 #[.slice (some ⟨ga,oa,none⟩) n c1,.slice (some ⟨gb,ob,none⟩) n c2] w fun e w'=>e=.returned (.int .i64 0)∧Still w w':=by
 have H1:=hide h1
 have H2:=hide h2
 clear h1 h2
 go_enter Tryz.func46,Tryz.ntmps46
 go_wp2_with fail
 go_loopw [5] (fun iv wr=>∃ i:Nat,iv=.int .i64 (i:Nat)∧i≤n∧Still w wr) (fun iv _=>n-(intOf iv).toNat)
 case atStart=>exact ⟨0,rfl,Nat.zero_le _,Still.refl _⟩
 case round=>
  obtain ⟨i,rfl,hi,hk⟩:=hrel
  have w1:IntKind.i64.wrap ((i:Int)+1)=(i:Int)+1:=wrap_small _ (by omega) (by omega)
  by_cases hin:i<n
  ·have e1:=(hk.cell _).trans (unhide H1 i hin)
   have e2:=(hk.cell _).trans (unhide H2 i hin)
   have dl:decide ((i:Int)<(n:Nat))=true:=decide_eq_true (by omega)
   have dx:decide (((f i:Nat):Int)<((f i:Nat):Int))=false:=decide_eq_false (by omega)
   have i1:(0:Int)≤(i:Nat):=by omega
   have i2:(i:Int)<(n:Nat):=by omega
   have HK:=hide hk
   clear hk
   go_wp2
   try go_region
   all_goals go_wp2
   all_goals try go_region
   all_goals go_wp2
   all_goals go_roundw
   all_goals first|exact ⟨i+1,by simp,by omega,((unhide HK).drew _).drew _⟩|exact ⟨i+1,by simp,by omega,(unhide HK).drew _⟩|exact ⟨i+1,by simp,by omega,unhide HK⟩|(simp [intOf];omega)
  ·have hiN:i=n:=by omega
   subst hiN
   have dl:decide ((i:Int)<(i:Nat))=false:=decide_eq_false (by omega)
   go_wp2
   go_ret
   exact ⟨rfl,hk⟩
theorem cmp_nil {w:World}{a b:Option Addr}{c1 c2:Nat}:
  Calls Tryz.prog 46 #[.slice a 0 c1,.slice b 0 c2] w fun e w'=>e=.returned (.int .i64 0)∧Still w w':=by
 go_enter Tryz.func46,Tryz.ntmps46
 go_wp2_with fail
 go_loopw [5] (fun iv wr=>iv=.int .i64 0∧Still w wr) (fun iv _=>0)
 case atStart=>exact ⟨rfl,Still.refl _⟩
 case round=>
  obtain ⟨rfl,hk⟩:=hrel
  go_wp2
  go_ret
  exact ⟨rfl,hk⟩
theorem eqb_yes {w:World}{a b:Option Addr}{c1 c2:Nat}{l:List Nat} (hl:l.length≤100000000) (h1:Bytes w a l) (h2:Bytes w b l):
  Calls Tryz.prog 18 #[.slice a l.length c1,.slice b l.length c2] w fun e w'=>e=.returned (.bool true)∧Still w w':=by
 have A:Calls Tryz.prog 46 #[.slice a l.length c1,.slice b l.length c2] w fun e w'=>e=.returned (.int .i64 0)∧Still w w':=by
  by_cases h0:l=[]
  ·subst h0
   exact cmp_nil
  ·rcases h1 with h|⟨g1,o1,rfl,_,q1⟩
   ·exact absurd h h0
   ·rcases h2 with h|⟨g2,o2,rfl,_,q2⟩
    ·exact absurd h h0
    ·exact cmp_core (fun j=>l.getD j 0) hl q1 q2
 have HA:=hide A
 clear A h1 h2
 generalize l.length=N at *
 go_enter Tryz.func18,Tryz.ntmps18
 go_wp2_with fail
 refine (unhide HA).mono ?_
 rintro e w2 ⟨rfl,hS⟩
 have HS:=hide hS
 clear hS HA
 go_wp2_with fail
 all_goals go_ret
 all_goals exact ⟨rfl,unhide HS⟩
theorem small_end {w:World}{ph pa k r q s half U at' e0:Nat}{G:World→Prop} (hat:at'≤1048576) (hU:U≤1048576) (hs:s≤64) (hfit:U+s≤half) (hh:half≤1048576) (e1:w.cell? ⟨ph,1,none⟩=some (.pointer (some ⟨pa,0,none⟩)))
  (HU:∀ W,Still w W→Calls Tryz.prog 64 #[.pointer (some ⟨pa,0,none⟩)] W fun e w'=>e=.returned (.int .i64 (U:Nat))∧w'=W)
  (HS:∀ W,Still w W→Calls Tryz.prog 63 #[.pointer (some ⟨pa,0,none⟩)] W fun e w'=>e=.returned (.int .i64 (half:Nat))∧w'=W)
  (HA:∀ W,Still w W→Calls Tryz.prog 119 #[.pointer (some ⟨pa,0,none⟩),.int .i64 (k:Nat),.int .i64 (r:Nat),.int .i64 (q:Nat)] W fun e w'=>e=.returned (.tuple #[.int .i64 (at':Nat),.int .i64 0])∧G w'):
  Calls Tryz.prog 81 #[.pointer (some ⟨ph,0,none⟩),.int .i64 (k:Nat),.int .i64 (r:Nat),.int .i64 (q:Nat),.int .i64 (s:Nat)] w fun e w'=>e=.returned (.tuple #[.int .u64 (at':Nat),.int .i64 0])∧G w':=by
 have H1:=hide HU
 have H2:=hide HS
 have H3:=hide HA
 have a1:IntKind.i64.wrap ((U:Int)+(s:Nat))=(U:Int)+(s:Nat):=wrap_small _ (by omega) (by omega)
 have a2:IntKind.u64.wrap (at':Int)=at':=by rw[IntKind.wrap_u64];omega
 have d1:decide ((half:Int)<(U:Int)+(s:Nat))=false:=decide_eq_false (by omega)
 clear HU HS HA
 go_enter Tryz.func81,Tryz.ntmps81
 go_wp2
 go_quiet (first|(go_at_call 64;exact Calls.quiet_of_same (unhide H1 _ ((Still.refl _).drew _)))|(go_at_call 63;exact Calls.quiet_of_same (unhide H2 _ ((Still.refl _).drew _))))
 clear H1 H2
 go_wp2_with fail
 refine (unhide H3 _ ((Still.refl _).drew _)).mono ?_
 clear H3
 rintro e w2 ⟨rfl,hg⟩
 go_wp2
 go_ret2
 exact ⟨rfl,hg⟩
theorem small_coll {w:World}{ph pa k r q s half U:Nat}{G1 G2:World→Prop}{G3:Nat→Nat→World→Prop} (hU:U≤1048576) (hs:s≤64) (hfit:half<U+s) (hh:half≤1048576) (e1:w.cell? ⟨ph,1,none⟩=some (.pointer (some ⟨pa,0,none⟩)))
  (HU:∀ W,Still w W→Calls Tryz.prog 64 #[.pointer (some ⟨pa,0,none⟩)] W fun e w'=>e=.returned (.int .i64 (U:Nat))∧w'=W)
  (HS:∀ W,Still w W→Calls Tryz.prog 63 #[.pointer (some ⟨pa,0,none⟩)] W fun e w'=>e=.returned (.int .i64 (half:Nat))∧w'=W)
  (HC:∀ W,Still w W→Calls Tryz.prog 70 #[.pointer (some ⟨ph,0,none⟩)] W fun e w'=>e=.returned (.tuple #[])∧G1 w')
  (HF:∀ W,G1 W→Calls Tryz.prog 71 #[.pointer (some ⟨ph,0,none⟩),.int .i64 (s:Nat)] W fun e w'=>e=.returned (.tuple #[])∧G2 w')
  (HA:∀ W,G2 W→∃ pb at' e0:Nat,W.cell? ⟨ph,1,none⟩=some (.pointer (some ⟨pb,0,none⟩))∧at'≤1048576∧Calls Tryz.prog 119 #[.pointer (some ⟨pb,0,none⟩),.int .i64 (k:Nat),.int .i64 (r:Nat),.int .i64 (q:Nat)] W fun e w'=>e=.returned (.tuple #[.int .i64 (at':Nat),.int .i64 (e0:Nat)])∧G3 at' e0 w'):
  Calls Tryz.prog 81 #[.pointer (some ⟨ph,0,none⟩),.int .i64 (k:Nat),.int .i64 (r:Nat),.int .i64 (q:Nat),.int .i64 (s:Nat)] w fun e w'=>∃ at' e0:Nat,e=.returned (.tuple #[.int .u64 ((if e0=0 then at' else 0:Nat):Int),.int .i64 ((if e0=0 then 0 else 31:Nat):Int)])∧G3 at' e0 w':=by
 have H1:=hide HU
 have H2:=hide HS
 have H3:=hide HC
 have H4:=hide HF
 have H5:=hide HA
 have a1:IntKind.i64.wrap ((U:Int)+(s:Nat))=(U:Int)+(s:Nat):=wrap_small _ (by omega) (by omega)
 have d1:decide ((half:Int)<(U:Int)+(s:Nat))=true:=decide_eq_true (by omega)
 clear HU HS HC HF HA
 go_enter Tryz.func81,Tryz.ntmps81
 go_wp2
 go_quiet (first|(go_at_call 64;exact Calls.quiet_of_same (unhide H1 _ ((Still.refl _).drew _)))|(go_at_call 63;exact Calls.quiet_of_same (unhide H2 _ ((Still.refl _).drew _))))
 clear H1 H2
 go_wp2_with fail
 refine (unhide H3 _ ((Still.refl _).drew _)).mono ?_
 clear H3
 rintro e w2 ⟨rfl,hg1⟩
 have H4':=hide (unhide H4 w2 hg1)
 clear H4 hg1
 go_wp2_with fail
 refine (unhide H4').mono ?_
 clear H4'
 rintro e w3 ⟨rfl,hg2⟩
 obtain ⟨pb,at',e0,c1,hat,hcall⟩:=unhide H5 w3 hg2
 have H6:=hide hcall
 have a2:IntKind.u64.wrap (at':Int)=at':=by rw[IntKind.wrap_u64];omega
 clear H5 hg2 hcall
 by_cases h0:e0=0
 ·subst h0
  go_wp2_with fail
  refine (unhide H6).mono ?_
  clear H6
  rintro e w4 ⟨rfl,hg⟩
  go_wp2
  go_ret2
  exact ⟨at',0,rfl,hg⟩
 ·have d2:(((e0:Nat):Int) != 0)=true:=by simp;omega
  go_wp2_with fail
  refine (unhide H6).mono ?_
  clear H6
  rintro e w4 ⟨rfl,hg⟩
  go_wp2
  go_ret2
  refine ⟨at',e0,?_,hg⟩
  rw[if_neg h0,if_neg h0]
  rfl
set_option maxHeartbeats 2000000
theorem find_small {w:World}{ph p:Nat} (h:w.cell? ⟨ph,1,none⟩=some (.pointer (some ⟨p,0,none⟩))) (x:Nat) (hx:x<9223372036854775808):
  Calls Tryz.prog 84 #[.pointer (some ⟨ph,0,none⟩),.int .u64 (x:Nat)] w fun e w'=>e=.returned (.tuple #[.iface 85 (.pointer (some ⟨p,0,none⟩)),.int .i64 (x:Nat),.int .i64 0])∧Still w w':=by
 have HL:=hide (large_any x (by omega) w)
 have hd:decide (9223372036854775808≤x)=false:=decide_eq_false (by omega)
 rw[hd] at HL
 clear hd
 go_enter Tryz.func84,Tryz.ntmps84
 go_wp2_with fail
 refine (unhide HL).mono ?_
 clear HL
 rintro e w1 ⟨rfl,rfl⟩
 go_wp2
 exact bodyPost_ret (v:=.tuple #[.iface 85 (.pointer (some ⟨p,0,none⟩)),.int .i64 (x:Nat),.int .i64 0]) (by simp [results,Tryz.results84,go_sem]) rfl ⟨rfl,Still.refl _⟩
theorem find_large {w:World}{ph:Nat}{c:List (Option Nat)}{fr:List Nat}{vc vf:Value} (h:PoolAt w ph 3 208 encP (.pointer none) c fr vc vf) (s:Nat) (hs:s<9223372036854775808) (bp:Nat) (hg:c.getD s none=some bp):
  Calls Tryz.prog 84 #[.pointer (some ⟨ph,0,none⟩),.int .u64 ((9223372036854775808+s:Nat):Int)] w fun e w'=>e=.returned (.tuple #[.iface 187 (.pointer (some ⟨bp,0,none⟩)),.int .i64 1,.int .i64 0])∧Still w w':=by
 have HL:=hide (large_any (9223372036854775808+s) (by omega) w)
 have hd:decide (9223372036854775808≤9223372036854775808+s)=true:=decide_eq_true (by omega)
 rw[hd] at HL
 have HS:=hide (fun W=>slot_any (9223372036854775808+s) (by omega) (by omega) W)
 have hsub:9223372036854775808+s-9223372036854775808=s:=by omega
 have HS:=hide (show ∀ W,Calls Tryz.prog 124 #[.int .u64 ((9223372036854775808+s:Nat):Int)] W fun e w'=>e=.returned (.int .i64 (s:Nat))∧w'=W from fun W=>by have:=unhide HS W;rw[hsub] at this;exact this)
 clear hsub
 have hpg:poolGet c (s:Nat)=some bp:=by simpa [poolGet] using hg
 have HG:=hide (show ∀ W,Still w W→Calls Tryz.prog 123 #[.pointer (some ⟨ph,3,none⟩),.int .i64 (s:Nat)] W fun e w'=>e=.returned (.tuple #[.pointer (some ⟨bp,0,none⟩),.bool true])∧w'=W from fun W k=>by have:=getB_any (h.still k) (s:Nat);rw[hpg] at this;exact this)
 clear hd h hg hpg
 obtain ⟨X,hX⟩:∃ X:Nat,X=9223372036854775808+s:=⟨_,rfl⟩
 rw[← hX] at HL HS ⊢
 clear hX
 go_enter Tryz.func84,Tryz.ntmps84
 go_wp2_with fail
 refine (unhide HL).mono ?_
 clear HL
 rintro e w1 ⟨rfl,rfl⟩
 go_wp2_with fail
 go_region_with (first|(go_at_call 124;refine (unhide HS _).mono ?_;rintro e w' ⟨rfl,hw'⟩;obtain rfl:=hw'.symm)|(go_at_call 123;refine (unhide HG w1.drew ⟨rfl,rfl,rfl,rfl⟩).mono ?_;rintro e w' ⟨rfl,hw'⟩;obtain rfl:=hw'.symm))
 all_goals (clear HS HG)
 all_goals go_wp2
 all_goals exact bodyPost_ret (v:=.tuple #[.iface 187 (.pointer (some ⟨bp,0,none⟩)),.int .i64 1,.int .i64 0]) (by simp [results,Tryz.results84,go_sem]) rfl ⟨rfl,⟨rfl,rfl,rfl,rfl⟩⟩
theorem find_none {w:World}{ph:Nat}{c:List (Option Nat)}{fr:List Nat}{vc vf:Value} (h:PoolAt w ph 3 208 encP (.pointer none) c fr vc vf) (s:Nat) (hs:s<9223372036854775808) (hg:c.getD s none=none):
  Calls Tryz.prog 84 #[.pointer (some ⟨ph,0,none⟩),.int .u64 ((9223372036854775808+s:Nat):Int)] w fun e w'=>e=.returned (.tuple #[.nilIface,.int .i64 0,.int .i64 32])∧Still w w':=by
 have HL:=hide (large_any (9223372036854775808+s) (by omega) w)
 have hd:decide (9223372036854775808≤9223372036854775808+s)=true:=decide_eq_true (by omega)
 rw[hd] at HL
 have HS:=hide (fun W=>slot_any (9223372036854775808+s) (by omega) (by omega) W)
 have hsub:9223372036854775808+s-9223372036854775808=s:=by omega
 have HS:=hide (show ∀ W,Calls Tryz.prog 124 #[.int .u64 ((9223372036854775808+s:Nat):Int)] W fun e w'=>e=.returned (.int .i64 (s:Nat))∧w'=W from fun W=>by have:=unhide HS W;rw[hsub] at this;exact this)
 clear hsub
 have hpg:poolGet c (s:Nat)=none:=by simpa [poolGet] using hg
 have HG:=hide (show ∀ W,Still w W→Calls Tryz.prog 123 #[.pointer (some ⟨ph,3,none⟩),.int .i64 (s:Nat)] W fun e w'=>e=.returned (.tuple #[.pointer none,.bool false])∧w'=W from fun W k=>by have:=getB_any (h.still k) (s:Nat);rw[hpg] at this;exact this)
 clear hd h hg hpg
 obtain ⟨X,hX⟩:∃ X:Nat,X=9223372036854775808+s:=⟨_,rfl⟩
 rw[← hX] at HL HS ⊢
 clear hX
 go_enter Tryz.func84,Tryz.ntmps84
 go_wp2_with fail
 refine (unhide HL).mono ?_
 clear HL
 rintro e w1 ⟨rfl,rfl⟩
 go_wp2_with fail
 go_region_with (first|(go_at_call 124;refine (unhide HS _).mono ?_;rintro e w' ⟨rfl,hw'⟩;obtain rfl:=hw'.symm)|(go_at_call 123;refine (unhide HG w1.drew ⟨rfl,rfl,rfl,rfl⟩).mono ?_;rintro e w' ⟨rfl,hw'⟩;obtain rfl:=hw'.symm))
 all_goals (clear HS HG)
 all_goals go_wp2
 all_goals exact bodyPost_ret (v:=.tuple #[.nilIface,.int .i64 0,.int .i64 32]) (by simp [results,Tryz.results84,go_sem]) rfl ⟨rfl,⟨rfl,rfl,rfl,rfl⟩⟩
theorem m_obj_b0 (W:World) (p:Nat):(method 378 187 (.pointer (some ⟨p,0,none⟩)) "Object").run Tryz.prog W=((load ⟨p,0,none⟩) >>= fun v=>pure (157,v)).run Tryz.prog W:=by kernel_rfl
theorem hobject_core {w:World}{ph t q p x:Nat}{at':Int}{bw bh:Nat}{ws:List Nat}{hs:List Bool}{used:Nat}{R:RefSt}
  (HF:Calls Tryz.prog 84 #[.pointer (some ⟨ph,0,none⟩),.int .u64 (x:Nat)] w fun e w'=>e=.returned (.tuple #[.iface t (.pointer (some ⟨q,0,none⟩)),.int .i64 at',.int .i64 0])∧Still w w')
  (hm:∀ W,Still w W→(method 378 t (.pointer (some ⟨q,0,none⟩)) "Object").run Tryz.prog W=.ok (157,.pointer (some ⟨p,0,none⟩)) W) (hA:Ar w p bw bh ws hs used) (r:Rel ws hs used R) (o:RefOk R):
  Calls Tryz.prog 44 #[.pointer (some ⟨ph,0,none⟩),.int .u64 (x:Nat)] w fun e w'=>e=.returned (.tuple #[.int .i64 ((robj R at').1:Nat),.int .i64 ((robj R at').2.1:Nat),.int .i64 ((robj R at').2.2.1:Nat),.int .i64 (heapErr (robj R at').2.2.2:Nat)])∧Below w.heap.size w w':=by
 have H1:=hide HF
 have H2:Hid (∀ W,Still w W→Calls Tryz.prog 157 #[.pointer (some ⟨p,0,none⟩),.int .i64 at'] W fun e w'=>e=.returned (.tuple #[.int .i64 ((robj R at').1:Nat),.int .i64 ((robj R at').2.1:Nat),.int .i64 ((robj R at').2.2.1:Nat),.int .i64 ((robj R at').2.2.2:Nat)])∧Below w.heap.size w w'):=hide (fun W k=>(p_object (hA.below k.below) r o at').mono (fun e w' hh=>⟨hh.1,k.below.trans (by have h2:=hh.2;rw[k.heap] at h2;exact h2)⟩))
 have HM:=hide hm
 have H3:Hid (∀ W,Calls Tryz.prog 85 #[.int .i64 ((robj R at').2.2.2:Nat)] W fun e w'=>e=.returned (.int .i64 (heapErr (robj R at').2.2.2:Nat))∧w'=W):=hide (fun W=>asHeap_any _ W)
 clear HF hm hA r o
 generalize heapErr (robj R at').2.2.2=f' at *
 generalize (robj R at').2.2.2=f at *
 generalize (robj R at').1=y1 at *
 generalize (robj R at').2.1=y2 at *
 generalize (robj R at').2.2.1=y3 at *
 go_enter Tryz.func44,Tryz.ntmps44
 go_wp2_with fail
 refine (unhide H1).mono ?_
 clear H1
 rintro e w1 ⟨rfl,hst⟩
 have hm1:=unhide HM w1 hst
 have H2':=hide (unhide H2 w1 hst)
 clear H2 HM hst
 go_wp2_with fail
 refine (unhide H2').mono ?_
 clear H2' hm1
 rintro e w2 ⟨rfl,hb2⟩
 have HB:=hide hb2
 clear hb2
 go_wp2_with fail
 refine (unhide H3 _).mono ?_
 rintro e w3 ⟨rfl,rfl⟩
 go_wp2
 exact bodyPost_ret (v:=.tuple #[.int .i64 (y1:Nat),.int .i64 (y2:Nat),.int .i64 (y3:Nat),.int .i64 (f':Nat)]) (by simp [results,Tryz.results44,go_sem]) rfl ⟨rfl,unhide HB⟩
theorem m_obj_b (W:World) (q p:Nat) (h:W.cell? ⟨q,0,none⟩=some (.pointer (some ⟨p,0,none⟩))):(method 378 187 (.pointer (some ⟨q,0,none⟩)) "Object").run Tryz.prog W=.ok (157,.pointer (some ⟨p,0,none⟩)) W:=by
 rw[m_obj_b0,Sem.run_bind,run_load,h];rfl
end Go.Proofs.YtnfbaapbpgbgpaaGreat
