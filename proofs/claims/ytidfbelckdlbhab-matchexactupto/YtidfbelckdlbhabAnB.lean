/- answers: bounds. -/
import Derived.Test.YtidfbelckdlbhabHld
import Derived.Test.YtidfbelckdlbhabBns
import Derived.Test.YtidfbelckdlbhabBnl
import Derived.Test.YtidfbelckdlbhabBni
import Derived.Test.YtidfbelckdlbhabBnx
namespace Go.Proofs.Ytidfbelckdlbhab
open Go.ChangeShapes Go.WideShapes Go.ChangeAt Go.RowKit
set_option linter.unusedVariables false
set_option maxRecDepth 20000
set_option maxHeartbeats 1000000

theorem answers_bnd (D : Int) (hD : D = 3 ∨ D = 4 ∨ D = 5 ∨ D = 6) (v1 v2 v3 v4 v5 v6 v7 v8 v9 v10 v11 v12 v13 v14 v15 v16 v17 : Value) (w : World)
    (H : ∀ W, Below w.heap.size w W → Calls Try.prog 18 #[.agg #[.int .i64 D, v1, v2, v3, v4, v5, v6, v7, v8, v9, v10, v11, v12, v13, v14, v15, v16, v17]] W fun e w' => e = .returned (.bool true) ∧ Below W.heap.size W w') :
    Calls Try.prog 9 #[.agg #[.int .i64 D, v1, v2, v3, v4, v5, v6, v7, v8, v9, v10, v11, v12, v13, v14, v15, v16, v17]] w fun e w' => e = .returned (.bool true) ∧ Below w.heap.size w w' := by
  have hb : Below w.heap.size w (w.alloc (.cells #[.int .i64 D, v1, v2, v3, v4, v5, v6, v7, v8, v9, v10, v11, v12, v13, v14, v15, v16, v17] 34)) := (Below.refl _ _).alloc (Nat.le_refl _) _
  have H1 := hide (H _ hb)
  have HB := hide hb
  have h28 : (Try.prog.info? 34).map (·.size) = some (#[.int .i64 D, v1, v2, v3, v4, v5, v6, v7, v8, v9, v10, v11, v12, v13, v14, v15, v16, v17] : Array Value).size := by kernel_rfl
  have H28 := hide h28
  have hra : (w.alloc (.cells #[.int .i64 D, v1, v2, v3, v4, v5, v6, v7, v8, v9, v10, v11, v12, v13, v14, v15, v16, v17] 34)).rangeAt w.heap.size 0 [.int .i64 D, v1, v2, v3, v4, v5, v6, v7, v8, v9, v10, v11, v12, v13, v14, v15, v16, v17] := fun j v hv => by
    rw [Nat.zero_add, cell_of_row _ _ _ _ _ _ (heap_alloc_new w _)]
    simpa using hv
  have HRA := hide hra
  clear H hb h28 hra
  rcases hD with rfl | rfl | rfl | rfl
  all_goals
    go_enter Try.func9, Try.ntmps9
    go_wp2_with (first | (refine wpList_load_mid rfl 34 (.tmp 1) rfl w.heap.size 0 rfl [_, v1, v2, v3, v4, v5, v6, v7, v8, v9, v10, v11, v12, v13, v14, v15, v16, v17] _ (unhide HRA) Try.underlying34 rfl (unhide H28) ?_))
    refine (unhide H1).mono ?_
    rintro e w1 ⟨rfl, hb1⟩
    go_wp2
    go_ret
    exact ⟨rfl, chain (unhide HB) hb1 (Nat.le_refl _)⟩

theorem answers_3456 (x : AskD) (W : World) (hok : AskOk W x) (h1 : 3 ≤ x.D) (h2 : x.D ≤ 6) : Calls Try.prog 9 #[.agg x.arr] W fun e w' => e = .returned (.bool true) ∧ Below W.heap.size W w' := by
  obtain ⟨D, P, aP, cP, T, aT, cT, I, J, N, lf, ls, lo, hf, hs, ho, ff, F, aF, cF, fo, uf, U, aU, cU, uo⟩ := x
  have hD : D = 3 ∨ D = 4 ∨ D = 5 ∨ D = 6 := by
    have h1 : 3 ≤ D := h1
    have h2 : D ≤ 6 := h2
    omega
  refine answers_bnd D hD _ _ _ _ _ _ _ _ _ _ _ _ _ _ _ _ _ W (fun V hV => ?_)
  have hk := hok.below hV
  rcases hD with rfl | rfl | rfl | rfl
  · exact bounds_score _ _ _ _ _ _ _ _ _ _ _ _ _ _ _ _ V hk.2.1
  · exact bounds_lex _ _ _ _ _ _ _ _ _ _ _ _ _ _ _ _ V hk.2.1
  · exact bounds_in _ _ _ _ _ _ _ _ _ _ I lf ls hf hs lo ho V
  · exact bounds_inlex _ _ _ _ _ _ _ _ _ _ ff uf fo uo V hk.2.2.1 hk.2.2.2.1 hk.2.2.2.2
end Go.Proofs.Ytidfbelckdlbhab
