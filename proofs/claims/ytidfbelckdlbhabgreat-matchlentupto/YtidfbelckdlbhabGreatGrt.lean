/- great. -/
import Derived.Test.YtidfbelckdlbhabGreatCpE
import Derived.Deep.RegionHeld3
namespace Go.Proofs.YtidfbelckdlbhabGreat
open Go.ChangeShapes Go.WideShapes Go.ChangeAt Go.RowKit
set_option linter.unusedVariables false
set_option linter.unusedSimpArgs false
set_option maxRecDepth 20000
set_option maxHeartbeats 4000000

def greatB (n k : Nat) : Bool := decide (0 < n) && decide ((25000000 : Int).tdiv (n : Int) < (k : Int))
theorem great_any (aP aT : Option Addr) (n k cP cT : Nat) (v0 v3 v4 v5 v6 v7 v8 v9 v10 v11 v12 v13 v14 v15 v16 v17 : Value) (w : World) (hn : n ≤ 1048576) (hk : k ≤ 1048576) :
    Calls Tryz.prog 11 #[.agg #[v0, .slice aP n cP, .slice aT k cT, v3, v4, v5, v6, v7, v8, v9, v10, v11, v12, v13, v14, v15, v16, v17]] w fun e w' => e = .returned (.bool (greatB n k)) ∧ Below w.heap.size w w' := by
  have HB : Hid (Below w.heap.size w (w.alloc (.cells #[v0, .slice aP n cP, .slice aT k cT, v3, v4, v5, v6, v7, v8, v9, v10, v11, v12, v13, v14, v15, v16, v17] 58))) := hide ((Below.refl _ _).alloc (Nat.le_refl _) _)
  rcases Nat.eq_zero_or_pos n with h0 | h0
  · subst h0
    have hG : Hid (greatB 0 k = false) := hide (by simp [greatB])
    generalize greatB 0 k = G at *
    go_enter Tryz.func11, Tryz.ntmps11
    go_wp2_with fail
    refine wp_region_noPanic ?_
    go_region
    all_goals refine NoPanic.normal ?_
    all_goals go_wp2
    all_goals go_ret
    all_goals exact ⟨ret_bool (by rw [unhide hG]), (unhide HB).drew⟩
  · have d1 : decide ((0 : Int) < (n : Int)) = true := decide_eq_true (by omega)
    have z1 : ((n : Int) == 0) = false := by rw [beq_eq_false_iff_ne]; omega
    obtain ⟨q, hq⟩ : ∃ q : Int, (25000000 : Int).tdiv (n : Int) = q := ⟨_, rfl⟩
    have hG : Hid (greatB n k = decide (q < (k : Int))) := hide (by unfold greatB; rw [hq, decide_eq_true h0, Bool.true_and])
    have hq1 : 0 ≤ q := by rw [← hq]; exact Int.tdiv_nonneg (by omega) (by omega)
    have hq2 : q ≤ 25000000 := by rw [← hq]; have := Int.tdiv_le_self (a := 25000000) (n : Int) (by omega); omega
    generalize greatB n k = G at *
    go_enter Tryz.func11, Tryz.ntmps11
    go_wp2_with fail
    refine wp_region_noPanic ?_
    go_region
    all_goals refine NoPanic.normal ?_
    all_goals go_wp2
    all_goals go_ret
    all_goals exact ⟨ret_bool (by rw [unhide hG]), (unhide HB).drew⟩
end Go.Proofs.YtidfbelckdlbhabGreat
