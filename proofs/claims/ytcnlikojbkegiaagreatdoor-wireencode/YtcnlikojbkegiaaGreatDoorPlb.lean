/- The document's plain: what is refused at once. -/
import Derived.Test.YtcnlikojbkegiaaGreatDoorPla
namespace Go.Proofs.YtcnlikojbkegiaaGreatDoor
open Go.ChangeShapes Go.WideShapes Go.ChangeAt Go.RowKit
set_option linter.unusedVariables false
set_option linter.unusedSimpArgs false
set_option maxRecDepth 20000
set_option maxHeartbeats 4000000
theorem plain_bad5 (w : World) (n : Int) (ta la : Option Addr) (tn tc ln lc : Nat) (h1 : tn ≤ 140737488351232) (h2 : ln ≤ 140737488351232) (hb : (¬ n = 0 ∧ ¬ (5 : Int) = 3) ∨ (0 < tn ∧ ¬ (5 : Int) = 1 ∧ ¬ (5 : Int) = 2 ∧ ¬ (5 : Int) = 4) ∨ (0 < ln ∧ ¬ (5 : Int) = 6) ∨ (((5 : Int) = 1 ∨ (5 : Int) = 2) ∧ 1024 < tn) ∨ ((5 : Int) = 4 ∧ 4096 < tn) ∨ 65536 < ln) : Calls Tryz.prog 49 #[.agg #[.int .i64 5, .int .i64 n, .slice ta tn tc, .slice la ln lc]] w fun e w' => e = .returned (.bool false) ∧ Below w.heap.size w w' := by
  rcases Decidable.em (n = 0) with n0 | n0
  · skip
    rcases Decidable.em (tn = 0) with t0 | t0
    · skip
      rcases Decidable.em (ln = 0) with l0 | l0
      · skip
        exfalso
        omega
      · skip
        try have f1 : decide (n = 0) = true := decide_eq_true (by omega)
        try have f1 : decide (n = 0) = false := decide_eq_false (by omega)
        try have f2 : decide ((0 : Int) < (tn : Int)) = true := decide_eq_true (by omega)
        try have f2 : decide ((0 : Int) < (tn : Int)) = false := decide_eq_false (by omega)
        try have f3 : decide (0 < tn) = true := decide_eq_true (by omega)
        try have f3 : decide (0 < tn) = false := decide_eq_false (by omega)
        try have f4 : decide ((0 : Int) < (ln : Int)) = true := decide_eq_true (by omega)
        try have f4 : decide ((0 : Int) < (ln : Int)) = false := decide_eq_false (by omega)
        try have f5 : decide (0 < ln) = true := decide_eq_true (by omega)
        try have f5 : decide (0 < ln) = false := decide_eq_false (by omega)
        try have f6 : decide ((1024 : Int) < (tn : Int)) = true := decide_eq_true (by omega)
        try have f6 : decide ((1024 : Int) < (tn : Int)) = false := decide_eq_false (by omega)
        try have f7 : decide (1024 < tn) = true := decide_eq_true (by omega)
        try have f7 : decide (1024 < tn) = false := decide_eq_false (by omega)
        try have f8 : decide ((4096 : Int) < (tn : Int)) = true := decide_eq_true (by omega)
        try have f8 : decide ((4096 : Int) < (tn : Int)) = false := decide_eq_false (by omega)
        try have f9 : decide (4096 < tn) = true := decide_eq_true (by omega)
        try have f9 : decide (4096 < tn) = false := decide_eq_false (by omega)
        try have f10 : decide ((65536 : Int) < (ln : Int)) = true := decide_eq_true (by omega)
        try have f10 : decide ((65536 : Int) < (ln : Int)) = false := decide_eq_false (by omega)
        try have f11 : decide (65536 < ln) = true := decide_eq_true (by omega)
        try have f11 : decide (65536 < ln) = false := decide_eq_false (by omega)
        clear hb
        go_enter Tryz.func49, Tryz.ntmps49
        go_wp2
        all_goals go_ret
        all_goals exact ⟨rfl, (Below.refl _ _).alloc (Nat.le_refl _) _⟩
    · skip
      try have f1 : decide (n = 0) = true := decide_eq_true (by omega)
      try have f1 : decide (n = 0) = false := decide_eq_false (by omega)
      try have f2 : decide ((0 : Int) < (tn : Int)) = true := decide_eq_true (by omega)
      try have f2 : decide ((0 : Int) < (tn : Int)) = false := decide_eq_false (by omega)
      try have f3 : decide (0 < tn) = true := decide_eq_true (by omega)
      try have f3 : decide (0 < tn) = false := decide_eq_false (by omega)
      try have f4 : decide ((0 : Int) < (ln : Int)) = true := decide_eq_true (by omega)
      try have f4 : decide ((0 : Int) < (ln : Int)) = false := decide_eq_false (by omega)
      try have f5 : decide (0 < ln) = true := decide_eq_true (by omega)
      try have f5 : decide (0 < ln) = false := decide_eq_false (by omega)
      try have f6 : decide ((1024 : Int) < (tn : Int)) = true := decide_eq_true (by omega)
      try have f6 : decide ((1024 : Int) < (tn : Int)) = false := decide_eq_false (by omega)
      try have f7 : decide (1024 < tn) = true := decide_eq_true (by omega)
      try have f7 : decide (1024 < tn) = false := decide_eq_false (by omega)
      try have f8 : decide ((4096 : Int) < (tn : Int)) = true := decide_eq_true (by omega)
      try have f8 : decide ((4096 : Int) < (tn : Int)) = false := decide_eq_false (by omega)
      try have f9 : decide (4096 < tn) = true := decide_eq_true (by omega)
      try have f9 : decide (4096 < tn) = false := decide_eq_false (by omega)
      try have f10 : decide ((65536 : Int) < (ln : Int)) = true := decide_eq_true (by omega)
      try have f10 : decide ((65536 : Int) < (ln : Int)) = false := decide_eq_false (by omega)
      try have f11 : decide (65536 < ln) = true := decide_eq_true (by omega)
      try have f11 : decide (65536 < ln) = false := decide_eq_false (by omega)
      clear hb
      go_enter Tryz.func49, Tryz.ntmps49
      go_wp2
      all_goals go_ret
      all_goals exact ⟨rfl, (Below.refl _ _).alloc (Nat.le_refl _) _⟩
  · skip
    try have f1 : decide (n = 0) = true := decide_eq_true (by omega)
    try have f1 : decide (n = 0) = false := decide_eq_false (by omega)
    try have f2 : decide ((0 : Int) < (tn : Int)) = true := decide_eq_true (by omega)
    try have f2 : decide ((0 : Int) < (tn : Int)) = false := decide_eq_false (by omega)
    try have f3 : decide (0 < tn) = true := decide_eq_true (by omega)
    try have f3 : decide (0 < tn) = false := decide_eq_false (by omega)
    try have f4 : decide ((0 : Int) < (ln : Int)) = true := decide_eq_true (by omega)
    try have f4 : decide ((0 : Int) < (ln : Int)) = false := decide_eq_false (by omega)
    try have f5 : decide (0 < ln) = true := decide_eq_true (by omega)
    try have f5 : decide (0 < ln) = false := decide_eq_false (by omega)
    try have f6 : decide ((1024 : Int) < (tn : Int)) = true := decide_eq_true (by omega)
    try have f6 : decide ((1024 : Int) < (tn : Int)) = false := decide_eq_false (by omega)
    try have f7 : decide (1024 < tn) = true := decide_eq_true (by omega)
    try have f7 : decide (1024 < tn) = false := decide_eq_false (by omega)
    try have f8 : decide ((4096 : Int) < (tn : Int)) = true := decide_eq_true (by omega)
    try have f8 : decide ((4096 : Int) < (tn : Int)) = false := decide_eq_false (by omega)
    try have f9 : decide (4096 < tn) = true := decide_eq_true (by omega)
    try have f9 : decide (4096 < tn) = false := decide_eq_false (by omega)
    try have f10 : decide ((65536 : Int) < (ln : Int)) = true := decide_eq_true (by omega)
    try have f10 : decide ((65536 : Int) < (ln : Int)) = false := decide_eq_false (by omega)
    try have f11 : decide (65536 < ln) = true := decide_eq_true (by omega)
    try have f11 : decide (65536 < ln) = false := decide_eq_false (by omega)
    clear hb
    go_enter Tryz.func49, Tryz.ntmps49
    go_wp2
    all_goals go_ret
    all_goals exact ⟨rfl, (Below.refl _ _).alloc (Nat.le_refl _) _⟩
theorem plain_bad7 (w : World) (n : Int) (ta la : Option Addr) (tn tc ln lc : Nat) (h1 : tn ≤ 140737488351232) (h2 : ln ≤ 140737488351232) (hb : (¬ n = 0 ∧ ¬ (7 : Int) = 3) ∨ (0 < tn ∧ ¬ (7 : Int) = 1 ∧ ¬ (7 : Int) = 2 ∧ ¬ (7 : Int) = 4) ∨ (0 < ln ∧ ¬ (7 : Int) = 6) ∨ (((7 : Int) = 1 ∨ (7 : Int) = 2) ∧ 1024 < tn) ∨ ((7 : Int) = 4 ∧ 4096 < tn) ∨ 65536 < ln) : Calls Tryz.prog 49 #[.agg #[.int .i64 7, .int .i64 n, .slice ta tn tc, .slice la ln lc]] w fun e w' => e = .returned (.bool false) ∧ Below w.heap.size w w' := by
  rcases Decidable.em (n = 0) with n0 | n0
  · skip
    rcases Decidable.em (tn = 0) with t0 | t0
    · skip
      rcases Decidable.em (ln = 0) with l0 | l0
      · skip
        exfalso
        omega
      · skip
        try have f1 : decide (n = 0) = true := decide_eq_true (by omega)
        try have f1 : decide (n = 0) = false := decide_eq_false (by omega)
        try have f2 : decide ((0 : Int) < (tn : Int)) = true := decide_eq_true (by omega)
        try have f2 : decide ((0 : Int) < (tn : Int)) = false := decide_eq_false (by omega)
        try have f3 : decide (0 < tn) = true := decide_eq_true (by omega)
        try have f3 : decide (0 < tn) = false := decide_eq_false (by omega)
        try have f4 : decide ((0 : Int) < (ln : Int)) = true := decide_eq_true (by omega)
        try have f4 : decide ((0 : Int) < (ln : Int)) = false := decide_eq_false (by omega)
        try have f5 : decide (0 < ln) = true := decide_eq_true (by omega)
        try have f5 : decide (0 < ln) = false := decide_eq_false (by omega)
        try have f6 : decide ((1024 : Int) < (tn : Int)) = true := decide_eq_true (by omega)
        try have f6 : decide ((1024 : Int) < (tn : Int)) = false := decide_eq_false (by omega)
        try have f7 : decide (1024 < tn) = true := decide_eq_true (by omega)
        try have f7 : decide (1024 < tn) = false := decide_eq_false (by omega)
        try have f8 : decide ((4096 : Int) < (tn : Int)) = true := decide_eq_true (by omega)
        try have f8 : decide ((4096 : Int) < (tn : Int)) = false := decide_eq_false (by omega)
        try have f9 : decide (4096 < tn) = true := decide_eq_true (by omega)
        try have f9 : decide (4096 < tn) = false := decide_eq_false (by omega)
        try have f10 : decide ((65536 : Int) < (ln : Int)) = true := decide_eq_true (by omega)
        try have f10 : decide ((65536 : Int) < (ln : Int)) = false := decide_eq_false (by omega)
        try have f11 : decide (65536 < ln) = true := decide_eq_true (by omega)
        try have f11 : decide (65536 < ln) = false := decide_eq_false (by omega)
        clear hb
        go_enter Tryz.func49, Tryz.ntmps49
        go_wp2
        all_goals go_ret
        all_goals exact ⟨rfl, (Below.refl _ _).alloc (Nat.le_refl _) _⟩
    · skip
      try have f1 : decide (n = 0) = true := decide_eq_true (by omega)
      try have f1 : decide (n = 0) = false := decide_eq_false (by omega)
      try have f2 : decide ((0 : Int) < (tn : Int)) = true := decide_eq_true (by omega)
      try have f2 : decide ((0 : Int) < (tn : Int)) = false := decide_eq_false (by omega)
      try have f3 : decide (0 < tn) = true := decide_eq_true (by omega)
      try have f3 : decide (0 < tn) = false := decide_eq_false (by omega)
      try have f4 : decide ((0 : Int) < (ln : Int)) = true := decide_eq_true (by omega)
      try have f4 : decide ((0 : Int) < (ln : Int)) = false := decide_eq_false (by omega)
      try have f5 : decide (0 < ln) = true := decide_eq_true (by omega)
      try have f5 : decide (0 < ln) = false := decide_eq_false (by omega)
      try have f6 : decide ((1024 : Int) < (tn : Int)) = true := decide_eq_true (by omega)
      try have f6 : decide ((1024 : Int) < (tn : Int)) = false := decide_eq_false (by omega)
      try have f7 : decide (1024 < tn) = true := decide_eq_true (by omega)
      try have f7 : decide (1024 < tn) = false := decide_eq_false (by omega)
      try have f8 : decide ((4096 : Int) < (tn : Int)) = true := decide_eq_true (by omega)
      try have f8 : decide ((4096 : Int) < (tn : Int)) = false := decide_eq_false (by omega)
      try have f9 : decide (4096 < tn) = true := decide_eq_true (by omega)
      try have f9 : decide (4096 < tn) = false := decide_eq_false (by omega)
      try have f10 : decide ((65536 : Int) < (ln : Int)) = true := decide_eq_true (by omega)
      try have f10 : decide ((65536 : Int) < (ln : Int)) = false := decide_eq_false (by omega)
      try have f11 : decide (65536 < ln) = true := decide_eq_true (by omega)
      try have f11 : decide (65536 < ln) = false := decide_eq_false (by omega)
      clear hb
      go_enter Tryz.func49, Tryz.ntmps49
      go_wp2
      all_goals go_ret
      all_goals exact ⟨rfl, (Below.refl _ _).alloc (Nat.le_refl _) _⟩
  · skip
    try have f1 : decide (n = 0) = true := decide_eq_true (by omega)
    try have f1 : decide (n = 0) = false := decide_eq_false (by omega)
    try have f2 : decide ((0 : Int) < (tn : Int)) = true := decide_eq_true (by omega)
    try have f2 : decide ((0 : Int) < (tn : Int)) = false := decide_eq_false (by omega)
    try have f3 : decide (0 < tn) = true := decide_eq_true (by omega)
    try have f3 : decide (0 < tn) = false := decide_eq_false (by omega)
    try have f4 : decide ((0 : Int) < (ln : Int)) = true := decide_eq_true (by omega)
    try have f4 : decide ((0 : Int) < (ln : Int)) = false := decide_eq_false (by omega)
    try have f5 : decide (0 < ln) = true := decide_eq_true (by omega)
    try have f5 : decide (0 < ln) = false := decide_eq_false (by omega)
    try have f6 : decide ((1024 : Int) < (tn : Int)) = true := decide_eq_true (by omega)
    try have f6 : decide ((1024 : Int) < (tn : Int)) = false := decide_eq_false (by omega)
    try have f7 : decide (1024 < tn) = true := decide_eq_true (by omega)
    try have f7 : decide (1024 < tn) = false := decide_eq_false (by omega)
    try have f8 : decide ((4096 : Int) < (tn : Int)) = true := decide_eq_true (by omega)
    try have f8 : decide ((4096 : Int) < (tn : Int)) = false := decide_eq_false (by omega)
    try have f9 : decide (4096 < tn) = true := decide_eq_true (by omega)
    try have f9 : decide (4096 < tn) = false := decide_eq_false (by omega)
    try have f10 : decide ((65536 : Int) < (ln : Int)) = true := decide_eq_true (by omega)
    try have f10 : decide ((65536 : Int) < (ln : Int)) = false := decide_eq_false (by omega)
    try have f11 : decide (65536 < ln) = true := decide_eq_true (by omega)
    try have f11 : decide (65536 < ln) = false := decide_eq_false (by omega)
    clear hb
    go_enter Tryz.func49, Tryz.ntmps49
    go_wp2
    all_goals go_ret
    all_goals exact ⟨rfl, (Below.refl _ _).alloc (Nat.le_refl _) _⟩
theorem plain_out (w : World) (K n : Int) (ta la : Option Addr) (tn tc ln lc : Nat) (hK : K < 1 ∨ 7 < K) : Calls Tryz.prog 49 #[.agg #[.int .i64 K, .int .i64 n, .slice ta tn tc, .slice la ln lc]] w fun e w' => e = .returned (.bool false) ∧ Below w.heap.size w w' := by
  rcases Decidable.em (K < 1) with q | q
  · skip
    try have g0 : decide (K = 1) = true := decide_eq_true (by omega)
    try have g0 : decide (K = 1) = false := decide_eq_false (by omega)
    try have g1 : decide (K = 2) = true := decide_eq_true (by omega)
    try have g1 : decide (K = 2) = false := decide_eq_false (by omega)
    try have g2 : decide (K = 3) = true := decide_eq_true (by omega)
    try have g2 : decide (K = 3) = false := decide_eq_false (by omega)
    try have g3 : decide (K = 4) = true := decide_eq_true (by omega)
    try have g3 : decide (K = 4) = false := decide_eq_false (by omega)
    try have g4 : decide (K = 6) = true := decide_eq_true (by omega)
    try have g4 : decide (K = 6) = false := decide_eq_false (by omega)
    try have g5 : decide (K < 1) = true := decide_eq_true (by omega)
    try have g5 : decide (K < 1) = false := decide_eq_false (by omega)
    try have g6 : decide (7 < K) = true := decide_eq_true (by omega)
    try have g6 : decide (7 < K) = false := decide_eq_false (by omega)
    try have g7 : decide (K > 7) = true := decide_eq_true (by omega)
    try have g7 : decide (K > 7) = false := decide_eq_false (by omega)
    try have g8 : decide (8 ≤ K) = true := decide_eq_true (by omega)
    try have g8 : decide (8 ≤ K) = false := decide_eq_false (by omega)
    clear hK
    go_enter Tryz.func49, Tryz.ntmps49
    go_wp2
    all_goals go_ret
    all_goals exact ⟨rfl, (Below.refl _ _).alloc (Nat.le_refl _) _⟩
  · have q7 : 7 < K := by omega
    try have g0 : decide (K = 1) = true := decide_eq_true (by omega)
    try have g0 : decide (K = 1) = false := decide_eq_false (by omega)
    try have g1 : decide (K = 2) = true := decide_eq_true (by omega)
    try have g1 : decide (K = 2) = false := decide_eq_false (by omega)
    try have g2 : decide (K = 3) = true := decide_eq_true (by omega)
    try have g2 : decide (K = 3) = false := decide_eq_false (by omega)
    try have g3 : decide (K = 4) = true := decide_eq_true (by omega)
    try have g3 : decide (K = 4) = false := decide_eq_false (by omega)
    try have g4 : decide (K = 6) = true := decide_eq_true (by omega)
    try have g4 : decide (K = 6) = false := decide_eq_false (by omega)
    try have g5 : decide (K < 1) = true := decide_eq_true (by omega)
    try have g5 : decide (K < 1) = false := decide_eq_false (by omega)
    try have g6 : decide (7 < K) = true := decide_eq_true (by omega)
    try have g6 : decide (7 < K) = false := decide_eq_false (by omega)
    try have g7 : decide (K > 7) = true := decide_eq_true (by omega)
    try have g7 : decide (K > 7) = false := decide_eq_false (by omega)
    try have g8 : decide (8 ≤ K) = true := decide_eq_true (by omega)
    try have g8 : decide (8 ≤ K) = false := decide_eq_false (by omega)
    clear hK
    go_enter Tryz.func49, Tryz.ntmps49
    go_wp2
    all_goals go_ret
    all_goals exact ⟨rfl, (Below.refl _ _).alloc (Nat.le_refl _) _⟩
end Go.Proofs.YtcnlikojbkegiaaGreatDoor
