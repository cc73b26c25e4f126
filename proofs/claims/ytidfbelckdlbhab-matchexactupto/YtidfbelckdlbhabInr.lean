/- ref InScore, ref InLex. -/
import Derived.Test.YtidfbelckdlbhabIns
import Derived.Deep.DeepCutAuto
namespace Go.Proofs.Ytidfbelckdlbhab
open Go.ChangeShapes Go.WideShapes Go.ChangeAt Go.RowKit
set_option linter.unusedVariables false
set_option maxRecDepth 100000
set_option maxHeartbeats 2000000

theorem rinscore_any (lf ls : Int) (lo : Bool) (hf hs : Int) (ho : Bool) (s : Int) (w : World) :
    Calls Try.prog 34 #[.agg #[.int .i64 lf, .int .i64 ls, .bool lo], .agg #[.int .i64 hf, .int .i64 hs, .bool ho], .int .i64 s] w fun e w' => e = .returned (.bool (Larder.inB lf (Larder.cmpInt s ls) lo hf (Larder.cmpInt hs s) ho)) ∧ Below w.heap.size w w' := by
  have hb : Below w.heap.size w ((w.alloc (.cells #[.int .i64 lf, .int .i64 ls, .bool lo] 30)).alloc (.cells #[.int .i64 hf, .int .i64 hs, .bool ho] 30)) := ((Below.refl _ _).alloc (Nat.le_refl _) _).alloc (by simp) _
  have HB := hide hb
  clear hb
  obtain ⟨X, hX⟩ : ∃ X, X = Larder.letsB lf (Larder.cmpInt s ls) lo := ⟨_, rfl⟩
  obtain ⟨Y, hY⟩ : ∃ Y, Y = Larder.letsB (Larder.cmpInt 0 hf) (Larder.cmpInt hs s) ho := ⟨_, rfl⟩
  unfold Larder.inB
  rw [← hX, ← hY]
  have HX := hide hX
  have HY := hide hY
  clear hX hY
  go_enter Try.func34, Try.ntmps34
  go_upto_region 1 with fail
  go_cut [7] (fun c wx => c = .bool X ∧ wx = ((w.alloc (.cells #[.int .i64 lf, .int .i64 ls, .bool lo] 30)).alloc (.cells #[.int .i64 hf, .int .i64 hs, .bool ho] 30)))
  case first =>
    by_cases h0 : lf < 0
    · have e0 : decide (lf < 0) = true := decide_eq_true h0
      go_wp2_with fail
      go_meet
      case rel => exact ⟨congrArg Value.bool (by rw [unhide HX]; (try have z1 := unhide g1); (try have z3 := unhide g3); unfold Larder.letsB Larder.cmpInt; simp <;> (repeat' split) <;> first | rfl | omega | simp_all | (simp_all; omega)), rfl⟩
    have e0 : decide (lf < 0) = false := decide_eq_false h0
    by_cases h1 : lf = 0
    rotate_left
    · have e1 : (lf == 0) = false := by rw [beq_eq_false_iff_ne]; exact h1
      go_wp2_with fail
      go_meet
      case rel => exact ⟨congrArg Value.bool (by rw [unhide HX]; (try have z1 := unhide g1); (try have z3 := unhide g3); unfold Larder.letsB Larder.cmpInt; simp <;> (repeat' split) <;> first | rfl | omega | simp_all | (simp_all; omega)), rfl⟩
    have e1 : (lf == 0) = true := by rw [beq_iff_eq]; exact h1
    have g1 := hide h1
    clear h1
    by_cases h2 : ls < s
    · have e2 : decide (ls < s) = true := decide_eq_true h2
      go_wp2_with fail
      go_meet
      case rel => exact ⟨congrArg Value.bool (by rw [unhide HX]; (try have z1 := unhide g1); (try have z3 := unhide g3); unfold Larder.letsB Larder.cmpInt; simp <;> (repeat' split) <;> first | rfl | omega | simp_all | (simp_all; omega)), rfl⟩
    have e2 : decide (ls < s) = false := decide_eq_false h2
    by_cases h3 : s = ls
    rotate_left
    · have e3 : (s == ls) = false := by rw [beq_eq_false_iff_ne]; exact h3
      go_wp2_with fail
      go_meet
      case rel => exact ⟨congrArg Value.bool (by rw [unhide HX]; (try have z1 := unhide g1); (try have z3 := unhide g3); unfold Larder.letsB Larder.cmpInt; simp <;> (repeat' split) <;> first | rfl | omega | simp_all | (simp_all; omega)), rfl⟩
    have e3 : (s == ls) = true := by rw [beq_iff_eq]; exact h3
    have g3 := hide h3
    clear h3
    cases lo
    · go_wp2_with fail
      go_meet
      case rel => exact ⟨congrArg Value.bool (by rw [unhide HX]; (try have z1 := unhide g1); (try have z3 := unhide g3); unfold Larder.letsB Larder.cmpInt; simp <;> (repeat' split) <;> first | rfl | omega | simp_all | (simp_all; omega)), rfl⟩
    · go_wp2_with fail
      go_meet
      case rel => exact ⟨congrArg Value.bool (by rw [unhide HX]; (try have z1 := unhide g1); (try have z3 := unhide g3); unfold Larder.letsB Larder.cmpInt; simp <;> (repeat' split) <;> first | rfl | omega | simp_all | (simp_all; omega)), rfl⟩
  case rest =>
  obtain ⟨rfl, rfl⟩ := hcut
  go_upto_region 2 with fail
  go_cut [8] (fun c wx => c = .bool Y ∧ wx = ((w.alloc (.cells #[.int .i64 lf, .int .i64 ls, .bool lo] 30)).alloc (.cells #[.int .i64 hf, .int .i64 hs, .bool ho] 30)))
  case first =>
    by_cases h0 : 0 < hf
    · have e0 : decide (0 < hf) = true := decide_eq_true h0
      go_wp2_with fail
      go_meet
      case rel => exact ⟨congrArg Value.bool (by rw [unhide HY]; (try have z1 := unhide g1); (try have z3 := unhide g3); unfold Larder.letsB Larder.cmpInt; simp <;> (repeat' split) <;> first | rfl | omega | simp_all | (simp_all; omega)), rfl⟩
    have e0 : decide (0 < hf) = false := decide_eq_false h0
    by_cases h1 : hf = 0
    rotate_left
    · have e1 : (hf == 0) = false := by rw [beq_eq_false_iff_ne]; exact h1
      go_wp2_with fail
      go_meet
      case rel => exact ⟨congrArg Value.bool (by rw [unhide HY]; (try have z1 := unhide g1); (try have z3 := unhide g3); unfold Larder.letsB Larder.cmpInt; simp <;> (repeat' split) <;> first | rfl | omega | simp_all | (simp_all; omega)), rfl⟩
    have e1 : (hf == 0) = true := by rw [beq_iff_eq]; exact h1
    have g1 := hide h1
    clear h1
    by_cases h2 : s < hs
    · have e2 : decide (s < hs) = true := decide_eq_true h2
      go_wp2_with fail
      go_meet
      case rel => exact ⟨congrArg Value.bool (by rw [unhide HY]; (try have z1 := unhide g1); (try have z3 := unhide g3); unfold Larder.letsB Larder.cmpInt; simp <;> (repeat' split) <;> first | rfl | omega | simp_all | (simp_all; omega)), rfl⟩
    have e2 : decide (s < hs) = false := decide_eq_false h2
    by_cases h3 : s = hs
    rotate_left
    · have e3 : (s == hs) = false := by rw [beq_eq_false_iff_ne]; exact h3
      go_wp2_with fail
      go_meet
      case rel => exact ⟨congrArg Value.bool (by rw [unhide HY]; (try have z1 := unhide g1); (try have z3 := unhide g3); unfold Larder.letsB Larder.cmpInt; simp <;> (repeat' split) <;> first | rfl | omega | simp_all | (simp_all; omega)), rfl⟩
    have e3 : (s == hs) = true := by rw [beq_iff_eq]; exact h3
    have g3 := hide h3
    clear h3
    cases ho
    · go_wp2_with fail
      go_meet
      case rel => exact ⟨congrArg Value.bool (by rw [unhide HY]; (try have z1 := unhide g1); (try have z3 := unhide g3); unfold Larder.letsB Larder.cmpInt; simp <;> (repeat' split) <;> first | rfl | omega | simp_all | (simp_all; omega)), rfl⟩
    · go_wp2_with fail
      go_meet
      case rel => exact ⟨congrArg Value.bool (by rw [unhide HY]; (try have z1 := unhide g1); (try have z3 := unhide g3); unfold Larder.letsB Larder.cmpInt; simp <;> (repeat' split) <;> first | rfl | omega | simp_all | (simp_all; omega)), rfl⟩
  case rest =>
  obtain ⟨rfl, rfl⟩ := hcut
  cases X <;> go_wp2 <;> go_ret <;> exact ⟨rfl, unhide HB⟩
end Go.Proofs.Ytidfbelckdlbhab
