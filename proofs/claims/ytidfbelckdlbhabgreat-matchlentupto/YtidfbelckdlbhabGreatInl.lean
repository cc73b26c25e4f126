/- ref InLex. -/
import Derived.Test.YtidfbelckdlbhabGreatIns
import Derived.Test.YtidfbelckdlbhabGreatLxa
import Derived.Deep.DeepCutAuto
namespace Go.Proofs.YtidfbelckdlbhabGreat
open Go.ChangeShapes Go.WideShapes Go.ChangeAt Go.RowKit
set_option linter.unusedVariables false
set_option maxRecDepth 100000
set_option maxHeartbeats 2000000

theorem rinlex_any {aL aH aM : Option Addr} {cL cH cM : Nat} {L H M : List Nat} (lf : Int) (lo : Bool) (hf : Int) (ho : Bool) (w : World) (hL : L.length ≤ 140737488355328) (hH : H.length ≤ 140737488355328) (hM : M.length ≤ 140737488355328) (bL : Bytes w aL L) (bH : Bytes w aH H) (bM : Bytes w aM M) :
    Calls Tryz.prog 48 #[.agg #[.int .i64 lf, .slice aL L.length cL, .bool lo], .agg #[.int .i64 hf, .slice aH H.length cH, .bool ho], .slice aM M.length cM] w fun e w' => e = .returned (.bool (Larder.inB lf (Larder.cmpL M L) lo hf (Larder.cmpL H M) ho)) ∧ Below w.heap.size w w' := by
  have hb : Below w.heap.size w ((w.alloc (.cells #[.int .i64 lf, .slice aL L.length cL, .bool lo] 36)).alloc (.cells #[.int .i64 hf, .slice aH H.length cH, .bool ho] 36)) := ((Below.refl _ _).alloc (Nat.le_refl _) _).alloc (by simp) _
  have HB := hide hb
  have g0 : (w.alloc (.cells #[.int .i64 lf, .slice aL L.length cL, .bool lo] 36)).heap[w.heap.size]? = some (.cells #[.int .i64 lf, .slice aL L.length cL, .bool lo] 36 (0, 0)) := heap_alloc_new _ _
  have G0 := hide (((Below.refl _ _).alloc (Nat.le_refl _) (.cells #[.int .i64 hf, .slice aH H.length cH, .bool ho] 36)).block w.heap.size (by simp) |>.trans g0)
  have G1 := hide (heap_alloc_new (w.alloc (.cells #[.int .i64 lf, .slice aL L.length cL, .bool lo] 36)) (.cells #[.int .i64 hf, .slice aH H.length cH, .bool ho] 36))
  clear g0
  have H1 := hide (cmp_any (c1 := cM) (c2 := cL) hM hL (bM.below hb) (bL.below hb))
  have H2 : Hid (∀ w1, Still ((w.alloc (.cells #[.int .i64 lf, .slice aL L.length cL, .bool lo] 36)).alloc (.cells #[.int .i64 hf, .slice aH H.length cH, .bool ho] 36)) w1 → Calls Tryz.prog 39 #[.slice aM M.length cM, .slice aH H.length cH] w1 fun e w' => e = .returned (.int .i64 (Larder.cmpL M H)) ∧ Still w1 w') := hide (fun w1 k => cmp_any (c1 := cM) (c2 := cH) hM hH ((bM.below hb).below k.below) ((bH.below hb).below k.below))
  have hN : Larder.cmpL H M = - Larder.cmpL M H := Larder.cmpL_neg M H
  rw [hN]
  clear hN hb bL bH bM
  generalize Larder.cmpL M L = A at *
  generalize Larder.cmpL M H = B at *
  generalize L.length = nL at *
  generalize H.length = nH at *
  generalize M.length = nM at *
  clear hL hH hM
  obtain ⟨X, hX⟩ : ∃ X, X = Larder.letsB lf A lo := ⟨_, rfl⟩
  obtain ⟨Y, hY⟩ : ∃ Y, Y = Larder.letsB (Larder.cmpInt 0 hf) (-B) ho := ⟨_, rfl⟩
  unfold Larder.inB
  rw [← hX, ← hY]
  have HX := hide hX
  have HY := hide hY
  clear hX hY
  go_enter Tryz.func48, Tryz.ntmps48
  go_wp2_with fail
  refine (unhide H1).mono ?_
  rintro e w1 ⟨rfl, k1⟩
  have H2' := hide (unhide H2 w1 k1)
  have p0 := cells3 ((congrArg (·[w.heap.size]?) k1.heap).trans (unhide G0))
  have p1 := cells3 ((congrArg (·[(w.alloc (.cells #[.int .i64 lf, .slice aL nL cL, .bool lo] 36)).heap.size]?) k1.heap).trans (unhide G1))
  rw [show (w.alloc (.cells #[.int .i64 lf, .slice aL nL cL, .bool lo] 36)).heap.size = w.heap.size + 1 by simp] at p1
  obtain ⟨a0, a1, a2, _, _, _⟩ := p0
  obtain ⟨b0, b1, b2, _, _, _⟩ := p1
  have K1 := hide k1
  clear k1
  go_wp2_with fail
  refine (unhide H2').mono ?_
  rintro e w2 ⟨rfl, k2⟩
  have x0 := (k2.cell _).trans a0
  have x2 := (k2.cell _).trans a2
  have y0 := (k2.cell _).trans b0
  have y2 := (k2.cell _).trans b2
  have K2 := hide k2
  clear k2 a0 a1 a2 b0 b1 b2
  go_upto_region 3 with fail
  go_cut [9] (fun c wx => c = .bool X ∧ wx = w2)
  case first =>
    by_cases h0 : lf < 0
    · have e0 : decide (lf < 0) = true := decide_eq_true h0
      go_wp2_with fail
      go_meet
      case rel => exact ⟨congrArg Value.bool (by rw [unhide HX]; (try have z1 := unhide g1); (try have z3 := unhide g3); unfold Larder.letsB; (try unfold Larder.cmpInt); simp <;> (repeat' split) <;> first | rfl | omega | simp_all | (simp_all; omega)), rfl⟩
    have e0 : decide (lf < 0) = false := decide_eq_false h0
    by_cases h1 : lf = 0
    rotate_left
    · have e1 : (lf == 0) = false := by rw [beq_eq_false_iff_ne]; exact h1
      go_wp2_with fail
      go_meet
      case rel => exact ⟨congrArg Value.bool (by rw [unhide HX]; (try have z1 := unhide g1); (try have z3 := unhide g3); unfold Larder.letsB; (try unfold Larder.cmpInt); simp <;> (repeat' split) <;> first | rfl | omega | simp_all | (simp_all; omega)), rfl⟩
    have e1 : (lf == 0) = true := by rw [beq_iff_eq]; exact h1
    have g1 := hide h1
    clear h1
    by_cases h2 : 0 < A
    · have e2 : decide (0 < A) = true := decide_eq_true h2
      go_wp2_with fail
      go_meet
      case rel => exact ⟨congrArg Value.bool (by rw [unhide HX]; (try have z1 := unhide g1); (try have z3 := unhide g3); unfold Larder.letsB; (try unfold Larder.cmpInt); simp <;> (repeat' split) <;> first | rfl | omega | simp_all | (simp_all; omega)), rfl⟩
    have e2 : decide (0 < A) = false := decide_eq_false h2
    by_cases h3 : A = 0
    rotate_left
    · have e3 : (A == 0) = false := by rw [beq_eq_false_iff_ne]; exact h3
      go_wp2_with fail
      go_meet
      case rel => exact ⟨congrArg Value.bool (by rw [unhide HX]; (try have z1 := unhide g1); (try have z3 := unhide g3); unfold Larder.letsB; (try unfold Larder.cmpInt); simp <;> (repeat' split) <;> first | rfl | omega | simp_all | (simp_all; omega)), rfl⟩
    have e3 : (A == 0) = true := by rw [beq_iff_eq]; exact h3
    have g3 := hide h3
    clear h3
    cases lo
    · go_wp2_with fail
      go_meet
      case rel => exact ⟨congrArg Value.bool (by rw [unhide HX]; (try have z1 := unhide g1); (try have z3 := unhide g3); unfold Larder.letsB; (try unfold Larder.cmpInt); simp <;> (repeat' split) <;> first | rfl | omega | simp_all | (simp_all; omega)), rfl⟩
    · go_wp2_with fail
      go_meet
      case rel => exact ⟨congrArg Value.bool (by rw [unhide HX]; (try have z1 := unhide g1); (try have z3 := unhide g3); unfold Larder.letsB; (try unfold Larder.cmpInt); simp <;> (repeat' split) <;> first | rfl | omega | simp_all | (simp_all; omega)), rfl⟩
  case rest =>
  obtain ⟨rfl, hw2⟩ := hcut
  obtain rfl := hw2.symm
  clear hw2
  go_upto_region 4 with fail
  go_cut [10] (fun c wx => c = .bool Y ∧ wx = w2)
  case first =>
    by_cases h0 : 0 < hf
    · have e0 : decide (0 < hf) = true := decide_eq_true h0
      go_wp2_with fail
      go_meet
      case rel => exact ⟨congrArg Value.bool (by rw [unhide HY]; (try have z1 := unhide g1); (try have z3 := unhide g3); unfold Larder.letsB; (try unfold Larder.cmpInt); simp <;> (repeat' split) <;> first | rfl | omega | simp_all | (simp_all; omega)), rfl⟩
    have e0 : decide (0 < hf) = false := decide_eq_false h0
    by_cases h1 : hf = 0
    rotate_left
    · have e1 : (hf == 0) = false := by rw [beq_eq_false_iff_ne]; exact h1
      go_wp2_with fail
      go_meet
      case rel => exact ⟨congrArg Value.bool (by rw [unhide HY]; (try have z1 := unhide g1); (try have z3 := unhide g3); unfold Larder.letsB; (try unfold Larder.cmpInt); simp <;> (repeat' split) <;> first | rfl | omega | simp_all | (simp_all; omega)), rfl⟩
    have e1 : (hf == 0) = true := by rw [beq_iff_eq]; exact h1
    have g1 := hide h1
    clear h1
    by_cases h2 : B < 0
    · have e2 : decide (B < 0) = true := decide_eq_true h2
      go_wp2_with fail
      go_meet
      case rel => exact ⟨congrArg Value.bool (by rw [unhide HY]; (try have z1 := unhide g1); (try have z3 := unhide g3); unfold Larder.letsB; (try unfold Larder.cmpInt); simp <;> (repeat' split) <;> first | rfl | omega | simp_all | (simp_all; omega)), rfl⟩
    have e2 : decide (B < 0) = false := decide_eq_false h2
    by_cases h3 : B = 0
    rotate_left
    · have e3 : (B == 0) = false := by rw [beq_eq_false_iff_ne]; exact h3
      go_wp2_with fail
      go_meet
      case rel => exact ⟨congrArg Value.bool (by rw [unhide HY]; (try have z1 := unhide g1); (try have z3 := unhide g3); unfold Larder.letsB; (try unfold Larder.cmpInt); simp <;> (repeat' split) <;> first | rfl | omega | simp_all | (simp_all; omega)), rfl⟩
    have e3 : (B == 0) = true := by rw [beq_iff_eq]; exact h3
    have g3 := hide h3
    clear h3
    cases ho
    · go_wp2_with fail
      go_meet
      case rel => exact ⟨congrArg Value.bool (by rw [unhide HY]; (try have z1 := unhide g1); (try have z3 := unhide g3); unfold Larder.letsB; (try unfold Larder.cmpInt); simp <;> (repeat' split) <;> first | rfl | omega | simp_all | (simp_all; omega)), rfl⟩
    · go_wp2_with fail
      go_meet
      case rel => exact ⟨congrArg Value.bool (by rw [unhide HY]; (try have z1 := unhide g1); (try have z3 := unhide g3); unfold Larder.letsB; (try unfold Larder.cmpInt); simp <;> (repeat' split) <;> first | rfl | omega | simp_all | (simp_all; omega)), rfl⟩
  case rest =>
  obtain ⟨rfl, hw2⟩ := hcut
  obtain rfl := hw2.symm
  clear hw2
  cases X <;> go_wp2 <;> go_ret <;> exact ⟨rfl, chain (unhide HB) (((unhide K1).trans (unhide K2)).below) (Nat.le_refl _)⟩
end Go.Proofs.YtidfbelckdlbhabGreat
