/- The document's plain: what is refused at once. -/
import Derived.Test.YtcnlikojbkegiaaGreatDoorDep
namespace Go.Proofs.YtcnlikojbkegiaaGreatDoor
open Go.ChangeShapes Go.WideShapes Go.ChangeAt Go.RowKit
set_option linter.unusedVariables false
set_option linter.unusedSimpArgs false
set_option maxRecDepth 20000
set_option maxHeartbeats 4000000
theorem plain_bad1 (w : World) (n : Int) (ta la : Option Addr) (tn tc ln lc : Nat) (h1 : tn ≤ 140737488351232) (h2 : ln ≤ 140737488351232) (hb : (¬ n = 0 ∧ ¬ (1 : Int) = 3) ∨ (0 < tn ∧ ¬ (1 : Int) = 1 ∧ ¬ (1 : Int) = 2 ∧ ¬ (1 : Int) = 4) ∨ (0 < ln ∧ ¬ (1 : Int) = 6) ∨ (((1 : Int) = 1 ∨ (1 : Int) = 2) ∧ 1024 < tn) ∨ ((1 : Int) = 4 ∧ 4096 < tn) ∨ 65536 < ln) : Calls Tryz.prog 49 #[.agg #[.int .i64 1, .int .i64 n, .slice ta tn tc, .slice la ln lc]] w fun e w' => e = .returned (.bool false) ∧ Below w.heap.size w w' := by
  rcases Decidable.em (n = 0) with n0 | n0
  · skip
    rcases Decidable.em (tn = 0) with t0 | t0
    · skip
      rcases Decidable.em (ln = 0) with l0 | l0
      · skip
        exfalso
        omega
      · skip
        try have f1 : decide (n = 0) = true := decide_eq_true (by omega)
        try have f1 : decide (n = 0) = false := decide_eq_false (by omega)
        try have f2 : decide ((0 : Int) < (tn : Int)) = true := decide_eq_true (by omega)
        try have f2 : decide ((0 : Int) < (tn : Int)) = false := decide_eq_false (by omega)
        try have f3 : decide (0 < tn) = true := decide_eq_true (by omega)
        try have f3 : decide (0 < tn) = false := decide_eq_false (by omega)
        try have f4 : decide ((0 : Int) < (ln : Int)) = true := decide_eq_true (by omega)
        try have f4 : decide ((0 : Int) < (ln : Int)) = false := decide_eq_false (by omega)
        try have f5 : decide (0 < ln) = true := decide_eq_true (by omega)
        try have f5 : decide (0 < ln) = false := decide_eq_false (by omega)
        try have f6 : decide ((1024 : Int) < (tn : Int)) = true := decide_eq_true (by omega)
        try have f6 : decide ((1024 : Int) < (tn : Int)) = false := decide_eq_false (by omega)
        try have f7 : decide (1024 < tn) = true := decide_eq_true (by omega)
        try have f7 : decide (1024 < tn) = false := decide_eq_false (by omega)
        try have f8 : decide ((4096 : Int) < (tn : Int)) = true := decide_eq_true (by omega)
        try have f8 : decide ((4096 : Int) < (tn : Int)) = false := decide_eq_false (by omega)
        try have f9 : decide (4096 < tn) = true := decide_eq_true (by omega)
        try have f9 : decide (4096 < tn) = false := decide_eq_false (by omega)
        try have f10 : decide ((65536 : Int) < (ln : Int)) = true := decide_eq_true (by omega)
        try have f10 : decide ((65536 : Int) < (ln : Int)) = false := decide_eq_false (by omega)
        try have f11 : decide (65536 < ln) = true := decide_eq_true (by omega)
        try have f11 : decide (65536 < ln) = false := decide_eq_false (by omega)
        clear hb
        go_enter Tryz.func49, Tryz.ntmps49
        go_wp2
        all_goals go_ret
        all_goals exact ⟨rfl, (Below.refl _ _).alloc (Nat.le_refl _) _⟩
    · skip
      rcases Decidable.em (ln = 0) with l0 | l0
      · skip
        rcases Decidable.em (tn ≤ 1024) with t1 | t1
        · skip
          exfalso
          omega
        · skip
          try have f1 : decide (n = 0) = true := decide_eq_true (by omega)
          try have f1 : decide (n = 0) = false := decide_eq_false (by omega)
          try have f2 : decide ((0 : Int) < (tn : Int)) = true := decide_eq_true (by omega)
          try have f2 : decide ((0 : Int) < (tn : Int)) = false := decide_eq_false (by omega)
          try have f3 : decide (0 < tn) = true := decide_eq_true (by omega)
          try have f3 : decide (0 < tn) = false := decide_eq_false (by omega)
          try have f4 : decide ((0 : Int) < (ln : Int)) = true := decide_eq_true (by omega)
          try have f4 : decide ((0 : Int) < (ln : Int)) = false := decide_eq_false (by omega)
          try have f5 : decide (0 < ln) = true := decide_eq_true (by omega)
          try have f5 : decide (0 < ln) = false := decide_eq_false (by omega)
          try have f6 : decide ((1024 : Int) < (tn : Int)) = true := decide_eq_true (by omega)
          try have f6 : decide ((1024 : Int) < (tn : Int)) = false := decide_eq_false (by omega)
          try have f7 : decide (1024 < tn) = true := decide_eq_true (by omega)
          try have f7 : decide (1024 < tn) = false := decide_eq_false (by omega)
          try have f8 : decide ((4096 : Int) < (tn : Int)) = true := decide_eq_true (by omega)
          try have f8 : decide ((4096 : Int) < (tn : Int)) = false := decide_eq_false (by omega)
          try have f9 : decide (4096 < tn) = true := decide_eq_true (by omega)
          try have f9 : decide (4096 < tn) = false := decide_eq_false (by omega)
          try have f10 : decide ((65536 : Int) < (ln : Int)) = true := decide_eq_true (by omega)
          try have f10 : decide ((65536 : Int) < (ln : Int)) = false := decide_eq_false (by omega)
          try have f11 : decide (65536 < ln) = true := decide_eq_true (by omega)
          try have f11 : decide (65536 < ln) = false := decide_eq_false (by omega)
          clear hb
          go_enter Tryz.func49, Tryz.ntmps49
          go_wp2
          all_goals go_ret
          all_goals exact ⟨rfl, (Below.refl _ _).alloc (Nat.le_refl _) _⟩
      · skip
        try have f1 : decide (n = 0) = true := decide_eq_true (by omega)
        try have f1 : decide (n = 0) = false := decide_eq_false (by omega)
        try have f2 : decide ((0 : Int) < (tn : Int)) = true := decide_eq_true (by omega)
        try have f2 : decide ((0 : Int) < (tn : Int)) = false := decide_eq_false (by omega)
        try have f3 : decide (0 < tn) = true := decide_eq_true (by omega)
        try have f3 : decide (0 < tn) = false := decide_eq_false (by omega)
        try have f4 : decide ((0 : Int) < (ln : Int)) = true := decide_eq_true (by omega)
        try have f4 : decide ((0 : Int) < (ln : Int)) = false := decide_eq_false (by omega)
        try have f5 : decide (0 < ln) = true := decide_eq_true (by omega)
        try have f5 : decide (0 < ln) = false := decide_eq_false (by omega)
        try have f6 : decide ((1024 : Int) < (tn : Int)) = true := decide_eq_true (by omega)
        try have f6 : decide ((1024 : Int) < (tn : Int)) = false := decide_eq_false (by omega)
        try have f7 : decide (1024 < tn) = true := decide_eq_true (by omega)
        try have f7 : decide (1024 < tn) = false := decide_eq_false (by omega)
        try have f8 : decide ((4096 : Int) < (tn : Int)) = true := decide_eq_true (by omega)
        try have f8 : decide ((4096 : Int) < (tn : Int)) = false := decide_eq_false (by omega)
        try have f9 : decide (4096 < tn) = true := decide_eq_true (by omega)
        try have f9 : decide (4096 < tn) = false := decide_eq_false (by omega)
        try have f10 : decide ((65536 : Int) < (ln : Int)) = true := decide_eq_true (by omega)
        try have f10 : decide ((65536 : Int) < (ln : Int)) = false := decide_eq_false (by omega)
        try have f11 : decide (65536 < ln) = true := decide_eq_true (by omega)
        try have f11 : decide (65536 < ln) = false := decide_eq_false (by omega)
        clear hb
        go_enter Tryz.func49, Tryz.ntmps49
        go_wp2
        all_goals go_ret
        all_goals exact ⟨rfl, (Below.refl _ _).alloc (Nat.le_refl _) _⟩
  · skip
    try have f1 : decide (n = 0) = true := decide_eq_true (by omega)
    try have f1 : decide (n = 0) = false := decide_eq_false (by omega)
    try have f2 : decide ((0 : Int) < (tn : Int)) = true := decide_eq_true (by omega)
    try have f2 : decide ((0 : Int) < (tn : Int)) = false := decide_eq_false (by omega)
    try have f3 : decide (0 < tn) = true := decide_eq_true (by omega)
    try have f3 : decide (0 < tn) = false := decide_eq_false (by omega)
    try have f4 : decide ((0 : Int) < (ln : Int)) = true := decide_eq_true (by omega)
    try have f4 : decide ((0 : Int) < (ln : Int)) = false := decide_eq_false (by omega)
    try have f5 : decide (0 < ln) = true := decide_eq_true (by omega)
    try have f5 : decide (0 < ln) = false := decide_eq_false (by omega)
    try have f6 : decide ((1024 : Int) < (tn : Int)) = true := decide_eq_true (by omega)
    try have f6 : decide ((1024 : Int) < (tn : Int)) = false := decide_eq_false (by omega)
    try have f7 : decide (1024 < tn) = true := decide_eq_true (by omega)
    try have f7 : decide (1024 < tn) = false := decide_eq_false (by omega)
    try have f8 : decide ((4096 : Int) < (tn : Int)) = true := decide_eq_true (by omega)
    try have f8 : decide ((4096 : Int) < (tn : Int)) = false := decide_eq_false (by omega)
    try have f9 : decide (4096 < tn) = true := decide_eq_true (by omega)
    try have f9 : decide (4096 < tn) = false := decide_eq_false (by omega)
    try have f10 : decide ((65536 : Int) < (ln : Int)) = true := decide_eq_true (by omega)
    try have f10 : decide ((65536 : Int) < (ln : Int)) = false := decide_eq_false (by omega)
    try have f11 : decide (65536 < ln) = true := decide_eq_true (by omega)
    try have f11 : decide (65536 < ln) = false := decide_eq_false (by omega)
    clear hb
    go_enter Tryz.func49, Tryz.ntmps49
    go_wp2
    all_goals go_ret
    all_goals exact ⟨rfl, (Below.refl _ _).alloc (Nat.le_refl _) _⟩
theorem plain_bad2 (w : World) (n : Int) (ta la : Option Addr) (tn tc ln lc : Nat) (h1 : tn ≤ 140737488351232) (h2 : ln ≤ 140737488351232) (hb : (¬ n = 0 ∧ ¬ (2 : Int) = 3) ∨ (0 < tn ∧ ¬ (2 : Int) = 1 ∧ ¬ (2 : Int) = 2 ∧ ¬ (2 : Int) = 4) ∨ (0 < ln ∧ ¬ (2 : Int) = 6) ∨ (((2 : Int) = 1 ∨ (2 : Int) = 2) ∧ 1024 < tn) ∨ ((2 : Int) = 4 ∧ 4096 < tn) ∨ 65536 < ln) : Calls Tryz.prog 49 #[.agg #[.int .i64 2, .int .i64 n, .slice ta tn tc, .slice la ln lc]] w fun e w' => e = .returned (.bool false) ∧ Below w.heap.size w w' := by
  rcases Decidable.em (n = 0) with n0 | n0
  · skip
    rcases Decidable.em (tn = 0) with t0 | t0
    · skip
      rcases Decidable.em (ln = 0) with l0 | l0
      · skip
        exfalso
        omega
      · skip
        try have f1 : decide (n = 0) = true := decide_eq_true (by omega)
        try have f1 : decide (n = 0) = false := decide_eq_false (by omega)
        try have f2 : decide ((0 : Int) < (tn : Int)) = true := decide_eq_true (by omega)
        try have f2 : decide ((0 : Int) < (tn : Int)) = false := decide_eq_false (by omega)
        try have f3 : decide (0 < tn) = true := decide_eq_true (by omega)
        try have f3 : decide (0 < tn) = false := decide_eq_false (by omega)
        try have f4 : decide ((0 : Int) < (ln : Int)) = true := decide_eq_true (by omega)
        try have f4 : decide ((0 : Int) < (ln : Int)) = false := decide_eq_false (by omega)
        try have f5 : decide (0 < ln) = true := decide_eq_true (by omega)
        try have f5 : decide (0 < ln) = false := decide_eq_false (by omega)
        try have f6 : decide ((1024 : Int) < (tn : Int)) = true := decide_eq_true (by omega)
        try have f6 : decide ((1024 : Int) < (tn : Int)) = false := decide_eq_false (by omega)
        try have f7 : decide (1024 < tn) = true := decide_eq_true (by omega)
        try have f7 : decide (1024 < tn) = false := decide_eq_false (by omega)
        try have f8 : decide ((4096 : Int) < (tn : Int)) = true := decide_eq_true (by omega)
        try have f8 : decide ((4096 : Int) < (tn : Int)) = false := decide_eq_false (by omega)
        try have f9 : decide (4096 < tn) = true := decide_eq_true (by omega)
        try have f9 : decide (4096 < tn) = false := decide_eq_false (by omega)
        try have f10 : decide ((65536 : Int) < (ln : Int)) = true := decide_eq_true (by omega)
        try have f10 : decide ((65536 : Int) < (ln : Int)) = false := decide_eq_false (by omega)
        try have f11 : decide (65536 < ln) = true := decide_eq_true (by omega)
        try have f11 : decide (65536 < ln) = false := decide_eq_false (by omega)
        clear hb
        go_enter Tryz.func49, Tryz.ntmps49
        go_wp2
        all_goals go_ret
        all_goals exact ⟨rfl, (Below.refl _ _).alloc (Nat.le_refl _) _⟩
    · skip
      rcases Decidable.em (ln = 0) with l0 | l0
      · skip
        rcases Decidable.em (tn ≤ 1024) with t1 | t1
        · skip
          exfalso
          omega
        · skip
          try have f1 : decide (n = 0) = true := decide_eq_true (by omega)
          try have f1 : decide (n = 0) = false := decide_eq_false (by omega)
          try have f2 : decide ((0 : Int) < (tn : Int)) = true := decide_eq_true (by omega)
          try have f2 : decide ((0 : Int) < (tn : Int)) = false := decide_eq_false (by omega)
          try have f3 : decide (0 < tn) = true := decide_eq_true (by omega)
          try have f3 : decide (0 < tn) = false := decide_eq_false (by omega)
          try have f4 : decide ((0 : Int) < (ln : Int)) = true := decide_eq_true (by omega)
          try have f4 : decide ((0 : Int) < (ln : Int)) = false := decide_eq_false (by omega)
          try have f5 : decide (0 < ln) = true := decide_eq_true (by omega)
          try have f5 : decide (0 < ln) = false := decide_eq_false (by omega)
          try have f6 : decide ((1024 : Int) < (tn : Int)) = true := decide_eq_true (by omega)
          try have f6 : decide ((1024 : Int) < (tn : Int)) = false := decide_eq_false (by omega)
          try have f7 : decide (1024 < tn) = true := decide_eq_true (by omega)
          try have f7 : decide (1024 < tn) = false := decide_eq_false (by omega)
          try have f8 : decide ((4096 : Int) < (tn : Int)) = true := decide_eq_true (by omega)
          try have f8 : decide ((4096 : Int) < (tn : Int)) = false := decide_eq_false (by omega)
          try have f9 : decide (4096 < tn) = true := decide_eq_true (by omega)
          try have f9 : decide (4096 < tn) = false := decide_eq_false (by omega)
          try have f10 : decide ((65536 : Int) < (ln : Int)) = true := decide_eq_true (by omega)
          try have f10 : decide ((65536 : Int) < (ln : Int)) = false := decide_eq_false (by omega)
          try have f11 : decide (65536 < ln) = true := decide_eq_true (by omega)
          try have f11 : decide (65536 < ln) = false := decide_eq_false (by omega)
          clear hb
          go_enter Tryz.func49, Tryz.ntmps49
          go_wp2
          all_goals go_ret
          all_goals exact ⟨rfl, (Below.refl _ _).alloc (Nat.le_refl _) _⟩
      · skip
        try have f1 : decide (n = 0) = true := decide_eq_true (by omega)
        try have f1 : decide (n = 0) = false := decide_eq_false (by omega)
        try have f2 : decide ((0 : Int) < (tn : Int)) = true := decide_eq_true (by omega)
        try have f2 : decide ((0 : Int) < (tn : Int)) = false := decide_eq_false (by omega)
        try have f3 : decide (0 < tn) = true := decide_eq_true (by omega)
        try have f3 : decide (0 < tn) = false := decide_eq_false (by omega)
        try have f4 : decide ((0 : Int) < (ln : Int)) = true := decide_eq_true (by omega)
        try have f4 : decide ((0 : Int) < (ln : Int)) = false := decide_eq_false (by omega)
        try have f5 : decide (0 < ln) = true := decide_eq_true (by omega)
        try have f5 : decide (0 < ln) = false := decide_eq_false (by omega)
        try have f6 : decide ((1024 : Int) < (tn : Int)) = true := decide_eq_true (by omega)
        try have f6 : decide ((1024 : Int) < (tn : Int)) = false := decide_eq_false (by omega)
        try have f7 : decide (1024 < tn) = true := decide_eq_true (by omega)
        try have f7 : decide (1024 < tn) = false := decide_eq_false (by omega)
        try have f8 : decide ((4096 : Int) < (tn : Int)) = true := decide_eq_true (by omega)
        try have f8 : decide ((4096 : Int) < (tn : Int)) = false := decide_eq_false (by omega)
        try have f9 : decide (4096 < tn) = true := decide_eq_true (by omega)
        try have f9 : decide (4096 < tn) = false := decide_eq_false (by omega)
        try have f10 : decide ((65536 : Int) < (ln : Int)) = true := decide_eq_true (by omega)
        try have f10 : decide ((65536 : Int) < (ln : Int)) = false := decide_eq_false (by omega)
        try have f11 : decide (65536 < ln) = true := decide_eq_true (by omega)
        try have f11 : decide (65536 < ln) = false := decide_eq_false (by omega)
        clear hb
        go_enter Tryz.func49, Tryz.ntmps49
        go_wp2
        all_goals go_ret
        all_goals exact ⟨rfl, (Below.refl _ _).alloc (Nat.le_refl _) _⟩
  · skip
    try have f1 : decide (n = 0) = true := decide_eq_true (by omega)
    try have f1 : decide (n = 0) = false := decide_eq_false (by omega)
    try have f2 : decide ((0 : Int) < (tn : Int)) = true := decide_eq_true (by omega)
    try have f2 : decide ((0 : Int) < (tn : Int)) = false := decide_eq_false (by omega)
    try have f3 : decide (0 < tn) = true := decide_eq_true (by omega)
    try have f3 : decide (0 < tn) = false := decide_eq_false (by omega)
    try have f4 : decide ((0 : Int) < (ln : Int)) = true := decide_eq_true (by omega)
    try have f4 : decide ((0 : Int) < (ln : Int)) = false := decide_eq_false (by omega)
    try have f5 : decide (0 < ln) = true := decide_eq_true (by omega)
    try have f5 : decide (0 < ln) = false := decide_eq_false (by omega)
    try have f6 : decide ((1024 : Int) < (tn : Int)) = true := decide_eq_true (by omega)
    try have f6 : decide ((1024 : Int) < (tn : Int)) = false := decide_eq_false (by omega)
    try have f7 : decide (1024 < tn) = true := decide_eq_true (by omega)
    try have f7 : decide (1024 < tn) = false := decide_eq_false (by omega)
    try have f8 : decide ((4096 : Int) < (tn : Int)) = true := decide_eq_true (by omega)
    try have f8 : decide ((4096 : Int) < (tn : Int)) = false := decide_eq_false (by omega)
    try have f9 : decide (4096 < tn) = true := decide_eq_true (by omega)
    try have f9 : decide (4096 < tn) = false := decide_eq_false (by omega)
    try have f10 : decide ((65536 : Int) < (ln : Int)) = true := decide_eq_true (by omega)
    try have f10 : decide ((65536 : Int) < (ln : Int)) = false := decide_eq_false (by omega)
    try have f11 : decide (65536 < ln) = true := decide_eq_true (by omega)
    try have f11 : decide (65536 < ln) = false := decide_eq_false (by omega)
    clear hb
    go_enter Tryz.func49, Tryz.ntmps49
    go_wp2
    all_goals go_ret
    all_goals exact ⟨rfl, (Below.refl _ _).alloc (Nat.le_refl _) _⟩
theorem plain_bad3 (w : World) (n : Int) (ta la : Option Addr) (tn tc ln lc : Nat) (h1 : tn ≤ 140737488351232) (h2 : ln ≤ 140737488351232) (hb : (¬ n = 0 ∧ ¬ (3 : Int) = 3) ∨ (0 < tn ∧ ¬ (3 : Int) = 1 ∧ ¬ (3 : Int) = 2 ∧ ¬ (3 : Int) = 4) ∨ (0 < ln ∧ ¬ (3 : Int) = 6) ∨ (((3 : Int) = 1 ∨ (3 : Int) = 2) ∧ 1024 < tn) ∨ ((3 : Int) = 4 ∧ 4096 < tn) ∨ 65536 < ln) : Calls Tryz.prog 49 #[.agg #[.int .i64 3, .int .i64 n, .slice ta tn tc, .slice la ln lc]] w fun e w' => e = .returned (.bool false) ∧ Below w.heap.size w w' := by
  rcases Decidable.em (n = 0) with n0 | n0
  · skip
    rcases Decidable.em (tn = 0) with t0 | t0
    · skip
      rcases Decidable.em (ln = 0) with l0 | l0
      · skip
        exfalso
        omega
      · skip
        try have f1 : decide (n = 0) = true := decide_eq_true (by omega)
        try have f1 : decide (n = 0) = false := decide_eq_false (by omega)
        try have f2 : decide ((0 : Int) < (tn : Int)) = true := decide_eq_true (by omega)
        try have f2 : decide ((0 : Int) < (tn : Int)) = false := decide_eq_false (by omega)
        try have f3 : decide (0 < tn) = true := decide_eq_true (by omega)
        try have f3 : decide (0 < tn) = false := decide_eq_false (by omega)
        try have f4 : decide ((0 : Int) < (ln : Int)) = true := decide_eq_true (by omega)
        try have f4 : decide ((0 : Int) < (ln : Int)) = false := decide_eq_false (by omega)
        try have f5 : decide (0 < ln) = true := decide_eq_true (by omega)
        try have f5 : decide (0 < ln) = false := decide_eq_false (by omega)
        try have f6 : decide ((1024 : Int) < (tn : Int)) = true := decide_eq_true (by omega)
        try have f6 : decide ((1024 : Int) < (tn : Int)) = false := decide_eq_false (by omega)
        try have f7 : decide (1024 < tn) = true := decide_eq_true (by omega)
        try have f7 : decide (1024 < tn) = false := decide_eq_false (by omega)
        try have f8 : decide ((4096 : Int) < (tn : Int)) = true := decide_eq_true (by omega)
        try have f8 : decide ((4096 : Int) < (tn : Int)) = false := decide_eq_false (by omega)
        try have f9 : decide (4096 < tn) = true := decide_eq_true (by omega)
        try have f9 : decide (4096 < tn) = false := decide_eq_false (by omega)
        try have f10 : decide ((65536 : Int) < (ln : Int)) = true := decide_eq_true (by omega)
        try have f10 : decide ((65536 : Int) < (ln : Int)) = false := decide_eq_false (by omega)
        try have f11 : decide (65536 < ln) = true := decide_eq_true (by omega)
        try have f11 : decide (65536 < ln) = false := decide_eq_false (by omega)
        clear hb
        go_enter Tryz.func49, Tryz.ntmps49
        go_wp2
        all_goals go_ret
        all_goals exact ⟨rfl, (Below.refl _ _).alloc (Nat.le_refl _) _⟩
    · skip
      try have f1 : decide (n = 0) = true := decide_eq_true (by omega)
      try have f1 : decide (n = 0) = false := decide_eq_false (by omega)
      try have f2 : decide ((0 : Int) < (tn : Int)) = true := decide_eq_true (by omega)
      try have f2 : decide ((0 : Int) < (tn : Int)) = false := decide_eq_false (by omega)
      try have f3 : decide (0 < tn) = true := decide_eq_true (by omega)
      try have f3 : decide (0 < tn) = false := decide_eq_false (by omega)
      try have f4 : decide ((0 : Int) < (ln : Int)) = true := decide_eq_true (by omega)
      try have f4 : decide ((0 : Int) < (ln : Int)) = false := decide_eq_false (by omega)
      try have f5 : decide (0 < ln) = true := decide_eq_true (by omega)
      try have f5 : decide (0 < ln) = false := decide_eq_false (by omega)
      try have f6 : decide ((1024 : Int) < (tn : Int)) = true := decide_eq_true (by omega)
      try have f6 : decide ((1024 : Int) < (tn : Int)) = false := decide_eq_false (by omega)
      try have f7 : decide (1024 < tn) = true := decide_eq_true (by omega)
      try have f7 : decide (1024 < tn) = false := decide_eq_false (by omega)
      try have f8 : decide ((4096 : Int) < (tn : Int)) = true := decide_eq_true (by omega)
      try have f8 : decide ((4096 : Int) < (tn : Int)) = false := decide_eq_false (by omega)
      try have f9 : decide (4096 < tn) = true := decide_eq_true (by omega)
      try have f9 : decide (4096 < tn) = false := decide_eq_false (by omega)
      try have f10 : decide ((65536 : Int) < (ln : Int)) = true := decide_eq_true (by omega)
      try have f10 : decide ((65536 : Int) < (ln : Int)) = false := decide_eq_false (by omega)
      try have f11 : decide (65536 < ln) = true := decide_eq_true (by omega)
      try have f11 : decide (65536 < ln) = false := decide_eq_false (by omega)
      clear hb
      go_enter Tryz.func49, Tryz.ntmps49
      go_wp2
      all_goals go_ret
      all_goals exact ⟨rfl, (Below.refl _ _).alloc (Nat.le_refl _) _⟩
  · skip
    rcases Decidable.em (tn = 0) with t0 | t0
    · skip
      rcases Decidable.em (ln = 0) with l0 | l0
      · skip
        exfalso
        omega
      · skip
        try have f1 : decide (n = 0) = true := decide_eq_true (by omega)
        try have f1 : decide (n = 0) = false := decide_eq_false (by omega)
        try have f2 : decide ((0 : Int) < (tn : Int)) = true := decide_eq_true (by omega)
        try have f2 : decide ((0 : Int) < (tn : Int)) = false := decide_eq_false (by omega)
        try have f3 : decide (0 < tn) = true := decide_eq_true (by omega)
        try have f3 : decide (0 < tn) = false := decide_eq_false (by omega)
        try have f4 : decide ((0 : Int) < (ln : Int)) = true := decide_eq_true (by omega)
        try have f4 : decide ((0 : Int) < (ln : Int)) = false := decide_eq_false (by omega)
        try have f5 : decide (0 < ln) = true := decide_eq_true (by omega)
        try have f5 : decide (0 < ln) = false := decide_eq_false (by omega)
        try have f6 : decide ((1024 : Int) < (tn : Int)) = true := decide_eq_true (by omega)
        try have f6 : decide ((1024 : Int) < (tn : Int)) = false := decide_eq_false (by omega)
        try have f7 : decide (1024 < tn) = true := decide_eq_true (by omega)
        try have f7 : decide (1024 < tn) = false := decide_eq_false (by omega)
        try have f8 : decide ((4096 : Int) < (tn : Int)) = true := decide_eq_true (by omega)
        try have f8 : decide ((4096 : Int) < (tn : Int)) = false := decide_eq_false (by omega)
        try have f9 : decide (4096 < tn) = true := decide_eq_true (by omega)
        try have f9 : decide (4096 < tn) = false := decide_eq_false (by omega)
        try have f10 : decide ((65536 : Int) < (ln : Int)) = true := decide_eq_true (by omega)
        try have f10 : decide ((65536 : Int) < (ln : Int)) = false := decide_eq_false (by omega)
        try have f11 : decide (65536 < ln) = true := decide_eq_true (by omega)
        try have f11 : decide (65536 < ln) = false := decide_eq_false (by omega)
        clear hb
        go_enter Tryz.func49, Tryz.ntmps49
        go_wp2
        all_goals go_ret
        all_goals exact ⟨rfl, (Below.refl _ _).alloc (Nat.le_refl _) _⟩
    · skip
      try have f1 : decide (n = 0) = true := decide_eq_true (by omega)
      try have f1 : decide (n = 0) = false := decide_eq_false (by omega)
      try have f2 : decide ((0 : Int) < (tn : Int)) = true := decide_eq_true (by omega)
      try have f2 : decide ((0 : Int) < (tn : Int)) = false := decide_eq_false (by omega)
      try have f3 : decide (0 < tn) = true := decide_eq_true (by omega)
      try have f3 : decide (0 < tn) = false := decide_eq_false (by omega)
      try have f4 : decide ((0 : Int) < (ln : Int)) = true := decide_eq_true (by omega)
      try have f4 : decide ((0 : Int) < (ln : Int)) = false := decide_eq_false (by omega)
      try have f5 : decide (0 < ln) = true := decide_eq_true (by omega)
      try have f5 : decide (0 < ln) = false := decide_eq_false (by omega)
      try have f6 : decide ((1024 : Int) < (tn : Int)) = true := decide_eq_true (by omega)
      try have f6 : decide ((1024 : Int) < (tn : Int)) = false := decide_eq_false (by omega)
      try have f7 : decide (1024 < tn) = true := decide_eq_true (by omega)
      try have f7 : decide (1024 < tn) = false := decide_eq_false (by omega)
      try have f8 : decide ((4096 : Int) < (tn : Int)) = true := decide_eq_true (by omega)
      try have f8 : decide ((4096 : Int) < (tn : Int)) = false := decide_eq_false (by omega)
      try have f9 : decide (4096 < tn) = true := decide_eq_true (by omega)
      try have f9 : decide (4096 < tn) = false := decide_eq_false (by omega)
      try have f10 : decide ((65536 : Int) < (ln : Int)) = true := decide_eq_true (by omega)
      try have f10 : decide ((65536 : Int) < (ln : Int)) = false := decide_eq_false (by omega)
      try have f11 : decide (65536 < ln) = true := decide_eq_true (by omega)
      try have f11 : decide (65536 < ln) = false := decide_eq_false (by omega)
      clear hb
      go_enter Tryz.func49, Tryz.ntmps49
      go_wp2
      all_goals go_ret
      all_goals exact ⟨rfl, (Below.refl _ _).alloc (Nat.le_refl _) _⟩
theorem plain_bad4 (w : World) (n : Int) (ta la : Option Addr) (tn tc ln lc : Nat) (h1 : tn ≤ 140737488351232) (h2 : ln ≤ 140737488351232) (hb : (¬ n = 0 ∧ ¬ (4 : Int) = 3) ∨ (0 < tn ∧ ¬ (4 : Int) = 1 ∧ ¬ (4 : Int) = 2 ∧ ¬ (4 : Int) = 4) ∨ (0 < ln ∧ ¬ (4 : Int) = 6) ∨ (((4 : Int) = 1 ∨ (4 : Int) = 2) ∧ 1024 < tn) ∨ ((4 : Int) = 4 ∧ 4096 < tn) ∨ 65536 < ln) : Calls Tryz.prog 49 #[.agg #[.int .i64 4, .int .i64 n, .slice ta tn tc, .slice la ln lc]] w fun e w' => e = .returned (.bool false) ∧ Below w.heap.size w w' := by
  rcases Decidable.em (n = 0) with n0 | n0
  · skip
    rcases Decidable.em (tn = 0) with t0 | t0
    · skip
      rcases Decidable.em (ln = 0) with l0 | l0
      · skip
        exfalso
        omega
      · skip
        try have f1 : decide (n = 0) = true := decide_eq_true (by omega)
        try have f1 : decide (n = 0) = false := decide_eq_false (by omega)
        try have f2 : decide ((0 : Int) < (tn : Int)) = true := decide_eq_true (by omega)
        try have f2 : decide ((0 : Int) < (tn : Int)) = false := decide_eq_false (by omega)
        try have f3 : decide (0 < tn) = true := decide_eq_true (by omega)
        try have f3 : decide (0 < tn) = false := decide_eq_false (by omega)
        try have f4 : decide ((0 : Int) < (ln : Int)) = true := decide_eq_true (by omega)
        try have f4 : decide ((0 : Int) < (ln : Int)) = false := decide_eq_false (by omega)
        try have f5 : decide (0 < ln) = true := decide_eq_true (by omega)
        try have f5 : decide (0 < ln) = false := decide_eq_false (by omega)
        try have f6 : decide ((1024 : Int) < (tn : Int)) = true := decide_eq_true (by omega)
        try have f6 : decide ((1024 : Int) < (tn : Int)) = false := decide_eq_false (by omega)
        try have f7 : decide (1024 < tn) = true := decide_eq_true (by omega)
        try have f7 : decide (1024 < tn) = false := decide_eq_false (by omega)
        try have f8 : decide ((4096 : Int) < (tn : Int)) = true := decide_eq_true (by omega)
        try have f8 : decide ((4096 : Int) < (tn : Int)) = false := decide_eq_false (by omega)
        try have f9 : decide (4096 < tn) = true := decide_eq_true (by omega)
        try have f9 : decide (4096 < tn) = false := decide_eq_false (by omega)
        try have f10 : decide ((65536 : Int) < (ln : Int)) = true := decide_eq_true (by omega)
        try have f10 : decide ((65536 : Int) < (ln : Int)) = false := decide_eq_false (by omega)
        try have f11 : decide (65536 < ln) = true := decide_eq_true (by omega)
        try have f11 : decide (65536 < ln) = false := decide_eq_false (by omega)
        clear hb
        go_enter Tryz.func49, Tryz.ntmps49
        go_wp2
        all_goals go_ret
        all_goals exact ⟨rfl, (Below.refl _ _).alloc (Nat.le_refl _) _⟩
    · skip
      rcases Decidable.em (ln = 0) with l0 | l0
      · skip
        rcases Decidable.em (tn ≤ 4096) with t4 | t4
        · skip
          exfalso
          omega
        · skip
          try have f1 : decide (n = 0) = true := decide_eq_true (by omega)
          try have f1 : decide (n = 0) = false := decide_eq_false (by omega)
          try have f2 : decide ((0 : Int) < (tn : Int)) = true := decide_eq_true (by omega)
          try have f2 : decide ((0 : Int) < (tn : Int)) = false := decide_eq_false (by omega)
          try have f3 : decide (0 < tn) = true := decide_eq_true (by omega)
          try have f3 : decide (0 < tn) = false := decide_eq_false (by omega)
          try have f4 : decide ((0 : Int) < (ln : Int)) = true := decide_eq_true (by omega)
          try have f4 : decide ((0 : Int) < (ln : Int)) = false := decide_eq_false (by omega)
          try have f5 : decide (0 < ln) = true := decide_eq_true (by omega)
          try have f5 : decide (0 < ln) = false := decide_eq_false (by omega)
          try have f6 : decide ((1024 : Int) < (tn : Int)) = true := decide_eq_true (by omega)
          try have f6 : decide ((1024 : Int) < (tn : Int)) = false := decide_eq_false (by omega)
          try have f7 : decide (1024 < tn) = true := decide_eq_true (by omega)
          try have f7 : decide (1024 < tn) = false := decide_eq_false (by omega)
          try have f8 : decide ((4096 : Int) < (tn : Int)) = true := decide_eq_true (by omega)
          try have f8 : decide ((4096 : Int) < (tn : Int)) = false := decide_eq_false (by omega)
          try have f9 : decide (4096 < tn) = true := decide_eq_true (by omega)
          try have f9 : decide (4096 < tn) = false := decide_eq_false (by omega)
          try have f10 : decide ((65536 : Int) < (ln : Int)) = true := decide_eq_true (by omega)
          try have f10 : decide ((65536 : Int) < (ln : Int)) = false := decide_eq_false (by omega)
          try have f11 : decide (65536 < ln) = true := decide_eq_true (by omega)
          try have f11 : decide (65536 < ln) = false := decide_eq_false (by omega)
          clear hb
          go_enter Tryz.func49, Tryz.ntmps49
          go_wp2
          all_goals go_ret
          all_goals exact ⟨rfl, (Below.refl _ _).alloc (Nat.le_refl _) _⟩
      · skip
        try have f1 : decide (n = 0) = true := decide_eq_true (by omega)
        try have f1 : decide (n = 0) = false := decide_eq_false (by omega)
        try have f2 : decide ((0 : Int) < (tn : Int)) = true := decide_eq_true (by omega)
        try have f2 : decide ((0 : Int) < (tn : Int)) = false := decide_eq_false (by omega)
        try have f3 : decide (0 < tn) = true := decide_eq_true (by omega)
        try have f3 : decide (0 < tn) = false := decide_eq_false (by omega)
        try have f4 : decide ((0 : Int) < (ln : Int)) = true := decide_eq_true (by omega)
        try have f4 : decide ((0 : Int) < (ln : Int)) = false := decide_eq_false (by omega)
        try have f5 : decide (0 < ln) = true := decide_eq_true (by omega)
        try have f5 : decide (0 < ln) = false := decide_eq_false (by omega)
        try have f6 : decide ((1024 : Int) < (tn : Int)) = true := decide_eq_true (by omega)
        try have f6 : decide ((1024 : Int) < (tn : Int)) = false := decide_eq_false (by omega)
        try have f7 : decide (1024 < tn) = true := decide_eq_true (by omega)
        try have f7 : decide (1024 < tn) = false := decide_eq_false (by omega)
        try have f8 : decide ((4096 : Int) < (tn : Int)) = true := decide_eq_true (by omega)
        try have f8 : decide ((4096 : Int) < (tn : Int)) = false := decide_eq_false (by omega)
        try have f9 : decide (4096 < tn) = true := decide_eq_true (by omega)
        try have f9 : decide (4096 < tn) = false := decide_eq_false (by omega)
        try have f10 : decide ((65536 : Int) < (ln : Int)) = true := decide_eq_true (by omega)
        try have f10 : decide ((65536 : Int) < (ln : Int)) = false := decide_eq_false (by omega)
        try have f11 : decide (65536 < ln) = true := decide_eq_true (by omega)
        try have f11 : decide (65536 < ln) = false := decide_eq_false (by omega)
        clear hb
        go_enter Tryz.func49, Tryz.ntmps49
        go_wp2
        all_goals go_ret
        all_goals exact ⟨rfl, (Below.refl _ _).alloc (Nat.le_refl _) _⟩
  · skip
    try have f1 : decide (n = 0) = true := decide_eq_true (by omega)
    try have f1 : decide (n = 0) = false := decide_eq_false (by omega)
    try have f2 : decide ((0 : Int) < (tn : Int)) = true := decide_eq_true (by omega)
    try have f2 : decide ((0 : Int) < (tn : Int)) = false := decide_eq_false (by omega)
    try have f3 : decide (0 < tn) = true := decide_eq_true (by omega)
    try have f3 : decide (0 < tn) = false := decide_eq_false (by omega)
    try have f4 : decide ((0 : Int) < (ln : Int)) = true := decide_eq_true (by omega)
    try have f4 : decide ((0 : Int) < (ln : Int)) = false := decide_eq_false (by omega)
    try have f5 : decide (0 < ln) = true := decide_eq_true (by omega)
    try have f5 : decide (0 < ln) = false := decide_eq_false (by omega)
    try have f6 : decide ((1024 : Int) < (tn : Int)) = true := decide_eq_true (by omega)
    try have f6 : decide ((1024 : Int) < (tn : Int)) = false := decide_eq_false (by omega)
    try have f7 : decide (1024 < tn) = true := decide_eq_true (by omega)
    try have f7 : decide (1024 < tn) = false := decide_eq_false (by omega)
    try have f8 : decide ((4096 : Int) < (tn : Int)) = true := decide_eq_true (by omega)
    try have f8 : decide ((4096 : Int) < (tn : Int)) = false := decide_eq_false (by omega)
    try have f9 : decide (4096 < tn) = true := decide_eq_true (by omega)
    try have f9 : decide (4096 < tn) = false := decide_eq_false (by omega)
    try have f10 : decide ((65536 : Int) < (ln : Int)) = true := decide_eq_true (by omega)
    try have f10 : decide ((65536 : Int) < (ln : Int)) = false := decide_eq_false (by omega)
    try have f11 : decide (65536 < ln) = true := decide_eq_true (by omega)
    try have f11 : decide (65536 < ln) = false := decide_eq_false (by omega)
    clear hb
    go_enter Tryz.func49, Tryz.ntmps49
    go_wp2
    all_goals go_ret
    all_goals exact ⟨rfl, (Below.refl _ _).alloc (Nat.le_refl _) _⟩
theorem plain_bad6 (w : World) (n : Int) (ta la : Option Addr) (tn tc ln lc : Nat) (h1 : tn ≤ 140737488351232) (h2 : ln ≤ 140737488351232) (hb : (¬ n = 0 ∧ ¬ (6 : Int) = 3) ∨ (0 < tn ∧ ¬ (6 : Int) = 1 ∧ ¬ (6 : Int) = 2 ∧ ¬ (6 : Int) = 4) ∨ (0 < ln ∧ ¬ (6 : Int) = 6) ∨ (((6 : Int) = 1 ∨ (6 : Int) = 2) ∧ 1024 < tn) ∨ ((6 : Int) = 4 ∧ 4096 < tn) ∨ 65536 < ln) : Calls Tryz.prog 49 #[.agg #[.int .i64 6, .int .i64 n, .slice ta tn tc, .slice la ln lc]] w fun e w' => e = .returned (.bool false) ∧ Below w.heap.size w w' := by
  rcases Decidable.em (n = 0) with n0 | n0
  · skip
    rcases Decidable.em (tn = 0) with t0 | t0
    · skip
      rcases Decidable.em (ln = 0) with l0 | l0
      · skip
        exfalso
        omega
      · skip
        rcases Decidable.em (ln ≤ 65536) with l6 | l6
        · skip
          exfalso
          omega
        · skip
          try have f1 : decide (n = 0) = true := decide_eq_true (by omega)
          try have f1 : decide (n = 0) = false := decide_eq_false (by omega)
          try have f2 : decide ((0 : Int) < (tn : Int)) = true := decide_eq_true (by omega)
          try have f2 : decide ((0 : Int) < (tn : Int)) = false := decide_eq_false (by omega)
          try have f3 : decide (0 < tn) = true := decide_eq_true (by omega)
          try have f3 : decide (0 < tn) = false := decide_eq_false (by omega)
          try have f4 : decide ((0 : Int) < (ln : Int)) = true := decide_eq_true (by omega)
          try have f4 : decide ((0 : Int) < (ln : Int)) = false := decide_eq_false (by omega)
          try have f5 : decide (0 < ln) = true := decide_eq_true (by omega)
          try have f5 : decide (0 < ln) = false := decide_eq_false (by omega)
          try have f6 : decide ((1024 : Int) < (tn : Int)) = true := decide_eq_true (by omega)
          try have f6 : decide ((1024 : Int) < (tn : Int)) = false := decide_eq_false (by omega)
          try have f7 : decide (1024 < tn) = true := decide_eq_true (by omega)
          try have f7 : decide (1024 < tn) = false := decide_eq_false (by omega)
          try have f8 : decide ((4096 : Int) < (tn : Int)) = true := decide_eq_true (by omega)
          try have f8 : decide ((4096 : Int) < (tn : Int)) = false := decide_eq_false (by omega)
          try have f9 : decide (4096 < tn) = true := decide_eq_true (by omega)
          try have f9 : decide (4096 < tn) = false := decide_eq_false (by omega)
          try have f10 : decide ((65536 : Int) < (ln : Int)) = true := decide_eq_true (by omega)
          try have f10 : decide ((65536 : Int) < (ln : Int)) = false := decide_eq_false (by omega)
          try have f11 : decide (65536 < ln) = true := decide_eq_true (by omega)
          try have f11 : decide (65536 < ln) = false := decide_eq_false (by omega)
          clear hb
          go_enter Tryz.func49, Tryz.ntmps49
          go_wp2
          all_goals go_ret
          all_goals exact ⟨rfl, (Below.refl _ _).alloc (Nat.le_refl _) _⟩
    · skip
      try have f1 : decide (n = 0) = true := decide_eq_true (by omega)
      try have f1 : decide (n = 0) = false := decide_eq_false (by omega)
      try have f2 : decide ((0 : Int) < (tn : Int)) = true := decide_eq_true (by omega)
      try have f2 : decide ((0 : Int) < (tn : Int)) = false := decide_eq_false (by omega)
      try have f3 : decide (0 < tn) = true := decide_eq_true (by omega)
      try have f3 : decide (0 < tn) = false := decide_eq_false (by omega)
      try have f4 : decide ((0 : Int) < (ln : Int)) = true := decide_eq_true (by omega)
      try have f4 : decide ((0 : Int) < (ln : Int)) = false := decide_eq_false (by omega)
      try have f5 : decide (0 < ln) = true := decide_eq_true (by omega)
      try have f5 : decide (0 < ln) = false := decide_eq_false (by omega)
      try have f6 : decide ((1024 : Int) < (tn : Int)) = true := decide_eq_true (by omega)
      try have f6 : decide ((1024 : Int) < (tn : Int)) = false := decide_eq_false (by omega)
      try have f7 : decide (1024 < tn) = true := decide_eq_true (by omega)
      try have f7 : decide (1024 < tn) = false := decide_eq_false (by omega)
      try have f8 : decide ((4096 : Int) < (tn : Int)) = true := decide_eq_true (by omega)
      try have f8 : decide ((4096 : Int) < (tn : Int)) = false := decide_eq_false (by omega)
      try have f9 : decide (4096 < tn) = true := decide_eq_true (by omega)
      try have f9 : decide (4096 < tn) = false := decide_eq_false (by omega)
      try have f10 : decide ((65536 : Int) < (ln : Int)) = true := decide_eq_true (by omega)
      try have f10 : decide ((65536 : Int) < (ln : Int)) = false := decide_eq_false (by omega)
      try have f11 : decide (65536 < ln) = true := decide_eq_true (by omega)
      try have f11 : decide (65536 < ln) = false := decide_eq_false (by omega)
      clear hb
      go_enter Tryz.func49, Tryz.ntmps49
      go_wp2
      all_goals go_ret
      all_goals exact ⟨rfl, (Below.refl _ _).alloc (Nat.le_refl _) _⟩
  · skip
    try have f1 : decide (n = 0) = true := decide_eq_true (by omega)
    try have f1 : decide (n = 0) = false := decide_eq_false (by omega)
    try have f2 : decide ((0 : Int) < (tn : Int)) = true := decide_eq_true (by omega)
    try have f2 : decide ((0 : Int) < (tn : Int)) = false := decide_eq_false (by omega)
    try have f3 : decide (0 < tn) = true := decide_eq_true (by omega)
    try have f3 : decide (0 < tn) = false := decide_eq_false (by omega)
    try have f4 : decide ((0 : Int) < (ln : Int)) = true := decide_eq_true (by omega)
    try have f4 : decide ((0 : Int) < (ln : Int)) = false := decide_eq_false (by omega)
    try have f5 : decide (0 < ln) = true := decide_eq_true (by omega)
    try have f5 : decide (0 < ln) = false := decide_eq_false (by omega)
    try have f6 : decide ((1024 : Int) < (tn : Int)) = true := decide_eq_true (by omega)
    try have f6 : decide ((1024 : Int) < (tn : Int)) = false := decide_eq_false (by omega)
    try have f7 : decide (1024 < tn) = true := decide_eq_true (by omega)
    try have f7 : decide (1024 < tn) = false := decide_eq_false (by omega)
    try have f8 : decide ((4096 : Int) < (tn : Int)) = true := decide_eq_true (by omega)
    try have f8 : decide ((4096 : Int) < (tn : Int)) = false := decide_eq_false (by omega)
    try have f9 : decide (4096 < tn) = true := decide_eq_true (by omega)
    try have f9 : decide (4096 < tn) = false := decide_eq_false (by omega)
    try have f10 : decide ((65536 : Int) < (ln : Int)) = true := decide_eq_true (by omega)
    try have f10 : decide ((65536 : Int) < (ln : Int)) = false := decide_eq_false (by omega)
    try have f11 : decide (65536 < ln) = true := decide_eq_true (by omega)
    try have f11 : decide (65536 < ln) = false := decide_eq_false (by omega)
    clear hb
    go_enter Tryz.func49, Tryz.ntmps49
    go_wp2
    all_goals go_ret
    all_goals exact ⟨rfl, (Below.refl _ _).alloc (Nat.le_refl _) _⟩
end Go.Proofs.YtcnlikojbkegiaaGreatDoor
