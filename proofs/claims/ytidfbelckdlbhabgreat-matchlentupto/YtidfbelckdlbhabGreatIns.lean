/- Compare, lets, mirrored, InScore. -/
import Derived.Test.YtidfbelckdlbhabGreatCpE
import Derived.Deep.RegionHeld3
namespace Larder
def cmpInt (x y : Int) : Int := if x < y then -1 else if y < x then 1 else 0
def letsB (far ord : Int) (op : Bool) : Bool := if far = 0 then (decide (0 < ord) || (decide (ord = 0) && !op)) else decide (far < 0)
/-- between two ends; a, b: how it stands to them -/
def inB (lf a : Int) (lo : Bool) (hf b : Int) (ho : Bool) : Bool := letsB lf a lo && letsB (cmpInt 0 hf) b ho
end Larder
namespace Go.Proofs.YtidfbelckdlbhabGreat
open Go.ChangeShapes Go.WideShapes Go.ChangeAt Go.RowKit
set_option linter.unusedVariables false
set_option maxRecDepth 20000

theorem nan_any (x : Int) (w : World) : Calls Tryz.prog 88 #[.int .i64 x] w fun e w' => e = .returned (.bool false) ∧ w' = w := by
  go_enter Tryz.func88, Tryz.ntmps88
  go_wp2
  go_ret
  exact ⟨rfl, rfl⟩
theorem comp_any (x y : Int) (w : World) : Calls Tryz.prog 61 #[.int .i64 x, .int .i64 y] w fun e w' => e = .returned (.int .i64 (Larder.cmpInt x y)) ∧ w' = w := by
  have H1 := hide (nan_any x w)
  have H2 := hide (nan_any y w)
  have HR : Hid (∃ R, R = Larder.cmpInt x y) := hide ⟨_, rfl⟩
  obtain ⟨R, hR⟩ := unhide HR
  rw [← hR]
  have HR := hide hR
  clear hR
  go_enter Tryz.func61, Tryz.ntmps61
  go_wp2_with fail
  refine (unhide H1).mono ?_
  rintro e w' ⟨rfl, h⟩; obtain rfl := h.symm
  go_wp2_with fail
  refine (unhide H2).mono ?_
  rintro e w' ⟨rfl, h⟩; obtain rfl := h.symm
  go_wp2
  all_goals (go_ret; refine ⟨ret_int ?_, rfl⟩; go_light; rw [unhide HR]; unfold Larder.cmpInt; (repeat' split) <;> omega)
theorem mirr_any (x : Int) (w : World) : Calls Tryz.prog 35 #[.int .i64 x] w fun e w' => e = .returned (.int .i64 (Larder.cmpInt 0 x)) ∧ w' = w := by
  have H1 := hide (comp_any 0 x w)
  generalize Larder.cmpInt 0 x = R at *
  go_enter Tryz.func35, Tryz.ntmps35
  go_wp2_with fail
  refine (unhide H1).mono ?_
  rintro e w' ⟨rfl, h⟩; obtain rfl := h.symm
  go_wp2
  go_ret
  exact ⟨rfl, rfl⟩
theorem lets_any (far ord : Int) (op : Bool) (w : World) : Calls Tryz.prog 33 #[.int .i64 far, .int .i64 ord, .bool op] w fun e w' => e = .returned (.bool (Larder.letsB far ord op)) ∧ w' = w := by
  have HR : Hid (∃ R, R = Larder.letsB far ord op) := hide ⟨_, rfl⟩
  obtain ⟨R, hR⟩ := unhide HR
  rw [← hR]
  have HR := hide hR
  clear hR
  by_cases h0 : far = 0
  · subst h0
    rcases Int.lt_trichotomy ord 0 with q | q | q
    · have f1 : decide (0 < ord) = false := decide_eq_false (by omega)
      have f2 : (ord == 0) = false := by rw [beq_eq_false_iff_ne]; omega
      go_enter Tryz.func33, Tryz.ntmps33
      go_wp2
      go_ret
      refine ⟨ret_bool ?_, rfl⟩
      rw [unhide HR]; unfold Larder.letsB; rw [if_pos rfl, f1, decide_eq_false (show ¬ ord = 0 by omega)]; rfl
    · subst q
      go_enter Tryz.func33, Tryz.ntmps33
      go_wp2
      go_ret
      refine ⟨ret_bool ?_, rfl⟩
      rw [unhide HR]; unfold Larder.letsB; simp
    · have f1 : decide (0 < ord) = true := decide_eq_true (by omega)
      go_enter Tryz.func33, Tryz.ntmps33
      go_wp2
      go_ret
      refine ⟨ret_bool ?_, rfl⟩
      rw [unhide HR]; unfold Larder.letsB; rw [if_pos rfl, f1]; rfl
  · have f0 : (far != 0) = true := by rw [bne_iff_ne]; exact h0
    go_enter Tryz.func33, Tryz.ntmps33
    go_wp2
    go_ret
    refine ⟨ret_bool ?_, rfl⟩
    rw [unhide HR]; unfold Larder.letsB; rw [if_neg h0]
end Go.Proofs.YtidfbelckdlbhabGreat
