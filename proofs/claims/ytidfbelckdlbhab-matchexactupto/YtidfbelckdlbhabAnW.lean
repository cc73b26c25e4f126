/- answers: Window. -/
import Derived.Test.YtidfbelckdlbhabHld
namespace Go.Proofs.Ytidfbelckdlbhab
open Go.ChangeShapes Go.WideShapes Go.ChangeAt Go.RowKit
set_option linter.unusedVariables false
set_option maxRecDepth 20000

theorem answers_win (v1 v2 v6 v7 v8 v9 v10 v11 v12 v13 v14 v15 v16 v17 : Value) (I J N : Int) (w : World) (hI : In64 I) (hJ : In64 J) (hN : In64 N) :
    Calls Try.prog 9 #[.agg #[.int .i64 2, v1, v2, .int .i64 I, .int .i64 J, .int .i64 N, v6, v7, v8, v9, v10, v11, v12, v13, v14, v15, v16, v17]] w fun e w' => e = .returned (.bool true) ∧ Below w.heap.size w w' := by
  have H1 := hide (fun W => window_any I J N W hI.1 hI.2 hJ.1 hJ.2 hN.1 hN.2)
  have H2 := hide (fun W => rwindow_any I J N W hI.1 hI.2 hJ.1 hJ.2 hN.1 hN.2)
  generalize Larder.winI I J N = R at *
  clear hI hJ hN
  go_enter Try.func9, Try.ntmps9
  go_wp2_with fail
  refine (unhide H1 _).mono ?_
  rintro e w1 ⟨rfl, rfl⟩
  go_wp2_with fail
  refine (unhide H2 _).mono ?_
  rintro e w2 ⟨rfl, rfl⟩
  go_wp2
  go_ret
  exact ⟨rfl, (Below.refl _ _).alloc (Nat.le_refl _) _⟩
end Go.Proofs.Ytidfbelckdlbhab
