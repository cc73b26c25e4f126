/- MatchSpans. -/
import Derived.Test.YtidfbelckdlbhaaWak
namespace Larder
theorem win_spans (s t : Int) (n : Nat) (hn : n < 300) : ∃ f c : Nat, winI s t (n : Int) = ((f : Int), (c : Int)) ∧ (c = 0 → f = 0) ∧ f + c ≤ n ∧
    ∀ i : Nat, i < n → ((f ≤ i ∧ i < f + c) ↔ ((0 ≤ s → s ≤ i) ∧ (s < 0 → s ≤ (i : Int) - n) ∧ (0 ≤ t → (i : Int) ≤ t) ∧ (t < 0 → (i : Int) - n ≤ t))) := by
  obtain ⟨S, hS⟩ : ∃ S, S = if s < 0 then max (s + (n : Int)) 0 else s := ⟨_, rfl⟩
  obtain ⟨T, hT⟩ : ∃ T, T = min (if t < 0 then t + (n : Int) else t) ((n : Int) - 1) := ⟨_, rfl⟩
  have e : winI s t n = if (n : Int) ≤ 0 then (0, 0) else if S > T then (0, 0) else (S, T - S + 1) := by unfold winI; rw [← hS, ← hT]
  have hS2 : (0 ≤ s → S = s) ∧ (s < 0 → S = max (s + n) 0) := by
    constructor
    · intro h; rw [hS, if_neg (by omega)]
    · intro h; rw [hS, if_pos h]
  have hT2 : (0 ≤ t → T = min t (n - 1)) ∧ (t < 0 → T = min (t + n) (n - 1)) := by
    constructor
    · intro h; rw [hT, if_neg (by omega)]
    · intro h; rw [hT, if_pos h]
  clear hS hT
  rw [e]
  clear e
  by_cases h0 : (n : Int) ≤ 0
  · rw [if_pos h0]
    exact ⟨0, 0, rfl, fun _ => rfl, by omega, fun i hi => by omega⟩
  · rw [if_neg h0]
    by_cases h1 : S > T
    · rw [if_pos h1]
      refine ⟨0, 0, rfl, fun _ => rfl, by omega, fun i hi => ?_⟩
      constructor
      · omega
      · intro h2
        by_cases q1 : s < 0 <;> by_cases q2 : t < 0 <;> omega
    · rw [if_neg h1]
      have q0 : 0 ≤ S := by by_cases q1 : s < 0 <;> omega
      have q3 : T ≤ n - 1 := by by_cases q2 : t < 0 <;> omega
      refine ⟨S.toNat, (T - S + 1).toNat, ?_, by omega, by omega, fun i hi => ?_⟩
      · rw [Int.toNat_of_nonneg q0, Int.toNat_of_nonneg (by omega)]
      · by_cases q1 : s < 0 <;> by_cases q2 : t < 0 <;> omega
end Larder
namespace Go.Proofs.Ytidfbelckdlbhaa
open Go.ChangeShapes Go.WideShapes Go.ChangeAt Go.RowKit
set_option linter.unusedVariables false
set_option maxRecDepth 20000

set_option maxHeartbeats 8000000 in
theorem spans_none (v0 v1 v2 v6 v7 v8 v9 v10 v11 v12 v13 v14 v15 v16 v17 : Value) (I J N : Int) (w : World) (hI1 : -9223372036854775808 ≤ I) (hI2 : I ≤ 9223372036854775807) (hJ1 : -9223372036854775808 ≤ J) (hJ2 : J ≤ 9223372036854775807) (hN1 : -9223372036854775808 ≤ N) (hN2 : N ≤ 9223372036854775807) (n f c : Nat) (hn : N.tmod 300 = (n : Int)) (hn300 : n < 300) (hW : Larder.winI I J n = ((f : Int), (c : Int))) (hfc : f + c ≤ n) (hcz : f = 0 ∧ c = 0)
    (hspan : ∀ i : Nat, i < n → ((f ≤ i ∧ i < f + c) ↔ ((0 ≤ I → I ≤ i) ∧ (I < 0 → I ≤ (i : Int) - n) ∧ (0 ≤ J → (i : Int) ≤ J) ∧ (J < 0 → (i : Int) - n ≤ J)))) :
    Calls Try.prog 3 #[.agg #[v0, v1, v2, .int .i64 I, .int .i64 J, .int .i64 N, v6, v7, v8, v9, v10, v11, v12, v13, v14, v15, v16, v17]] w fun e w' => e = .returned (.bool true) ∧ Below w.heap.size w w' := by
  have HW := hide ((wakes_any (w.alloc (.cells #[v0, v1, v2, .int .i64 I, .int .i64 J, .int .i64 N, v6, v7, v8, v9, v10, v11, v12, v13, v14, v15, v16, v17] 28))))
  obtain ⟨rfl, rfl⟩ := hcz
  go_enter Try.func3, Try.ntmps3
  go_wp2_with fail
  refine (unhide HW).mono ?_
  rintro e w1 ⟨rfl, hb1⟩
  have hr : w1.heap[w.heap.size]? = some (.cells #[v0, v1, v2, .int .i64 I, .int .i64 J, .int .i64 N, v6, v7, v8, v9, v10, v11, v12, v13, v14, v15, v16, v17] 28 (0, 0)) := (hb1.block w.heap.size (by simp)).trans (heap_alloc_new _ _)
  have c3 : w1.cell? ⟨w.heap.size, 3, none⟩ = some (.int .i64 I) := by rw [cell_of_row _ _ _ _ _ _ hr]; rfl
  have c4 : w1.cell? ⟨w.heap.size, 4, none⟩ = some (.int .i64 J) := by rw [cell_of_row _ _ _ _ _ _ hr]; rfl
  have c5 : w1.cell? ⟨w.heap.size, 5, none⟩ = some (.int .i64 N) := by rw [cell_of_row _ _ _ _ _ _ hr]; rfl
  have HB : Hid (Below w.heap.size w w1) := hide (((Below.refl _ _).alloc (Nat.le_refl _) _).trans (hb1.mono (by simp)))
  clear hr hb1 HW
  have H9 := hide (window_any I J (n : Int) w1 hI1 hI2 hJ1 hJ2 (by omega) (by omega))
  rw [hW] at H9
  have HSP := hide hspan
  clear hspan hW
  go_wp2_with fail
  refine (unhide H9).mono ?_
  rintro e w2 ⟨rfl, h⟩; obtain rfl := h.symm

  go_wp2_with fail
  go_loop [6] (fun i => ∃ k : Nat, k ≤ n ∧ i = .int .i64 k) (fun i => n - (intOf i).toNat)
  case atStart => exact ⟨0, by omega, rfl⟩
  case round =>
    obtain ⟨k, hk, rfl⟩ := hrel
    by_cases hlt : k < n
    · have hs := unhide HSP k hlt
      by_cases hi : I < 0
      · have fi1 : decide (0 ≤ I) = false := decide_eq_false (by omega)
        have fi2 : decide (I < 0) = true := decide_eq_true (by omega)
        by_cases hj : J < 0
        · have fj1 : decide (0 ≤ J) = false := decide_eq_false (by omega)
          have fj2 : decide (J < 0) = true := decide_eq_true (by omega)
          by_cases ha : (k : Int) - (n : Int) < I
          · have fa : decide ((k : Int) - (n : Int) < I) = true := decide_eq_true (by omega)
            by_cases hbh : J < (k : Int) - (n : Int)
            · have fb : decide (J < (k : Int) - (n : Int)) = true := decide_eq_true (by omega)
              clear hs
              go_wp2
              go_round
              case rel => exact ⟨k + 1, by omega, by go_num⟩
              case measure => simp [intOf]; omega
            · have fb : decide (J < (k : Int) - (n : Int)) = false := decide_eq_false (by omega)
              clear hs
              go_wp2
              go_round
              case rel => exact ⟨k + 1, by omega, by go_num⟩
              case measure => simp [intOf]; omega
          · have fa : decide ((k : Int) - (n : Int) < I) = false := decide_eq_false (by omega)
            by_cases hbh : J < (k : Int) - (n : Int)
            · have fb : decide (J < (k : Int) - (n : Int)) = true := decide_eq_true (by omega)
              clear hs
              go_wp2
              go_round
              case rel => exact ⟨k + 1, by omega, by go_num⟩
              case measure => simp [intOf]; omega
            · have fb : decide (J < (k : Int) - (n : Int)) = false := decide_eq_false (by omega)
              exfalso
              omega
        · have fj1 : decide (0 ≤ J) = true := decide_eq_true (by omega)
          have fj2 : decide (J < 0) = false := decide_eq_false (by omega)
          by_cases ha : (k : Int) - (n : Int) < I
          · have fa : decide ((k : Int) - (n : Int) < I) = true := decide_eq_true (by omega)
            by_cases hbh : J < (k : Int)
            · have fb : decide (J < (k : Int)) = true := decide_eq_true (by omega)
              clear hs
              go_wp2
              go_round
              case rel => exact ⟨k + 1, by omega, by go_num⟩
              case measure => simp [intOf]; omega
            · have fb : decide (J < (k : Int)) = false := decide_eq_false (by omega)
              clear hs
              go_wp2
              go_round
              case rel => exact ⟨k + 1, by omega, by go_num⟩
              case measure => simp [intOf]; omega
          · have fa : decide ((k : Int) - (n : Int) < I) = false := decide_eq_false (by omega)
            by_cases hbh : J < (k : Int)
            · have fb : decide (J < (k : Int)) = true := decide_eq_true (by omega)
              clear hs
              go_wp2
              go_round
              case rel => exact ⟨k + 1, by omega, by go_num⟩
              case measure => simp [intOf]; omega
            · have fb : decide (J < (k : Int)) = false := decide_eq_false (by omega)
              exfalso
              omega
      · have fi1 : decide (0 ≤ I) = true := decide_eq_true (by omega)
        have fi2 : decide (I < 0) = false := decide_eq_false (by omega)
        by_cases hj : J < 0
        · have fj1 : decide (0 ≤ J) = false := decide_eq_false (by omega)
          have fj2 : decide (J < 0) = true := decide_eq_true (by omega)
          by_cases ha : (k : Int) < I
          · have fa : decide ((k : Int) < I) = true := decide_eq_true (by omega)
            by_cases hbh : J < (k : Int) - (n : Int)
            · have fb : decide (J < (k : Int) - (n : Int)) = true := decide_eq_true (by omega)
              clear hs
              go_wp2
              go_round
              case rel => exact ⟨k + 1, by omega, by go_num⟩
              case measure => simp [intOf]; omega
            · have fb : decide (J < (k : Int) - (n : Int)) = false := decide_eq_false (by omega)
              clear hs
              go_wp2
              go_round
              case rel => exact ⟨k + 1, by omega, by go_num⟩
              case measure => simp [intOf]; omega
          · have fa : decide ((k : Int) < I) = false := decide_eq_false (by omega)
            by_cases hbh : J < (k : Int) - (n : Int)
            · have fb : decide (J < (k : Int) - (n : Int)) = true := decide_eq_true (by omega)
              clear hs
              go_wp2
              go_round
              case rel => exact ⟨k + 1, by omega, by go_num⟩
              case measure => simp [intOf]; omega
            · have fb : decide (J < (k : Int) - (n : Int)) = false := decide_eq_false (by omega)
              exfalso
              omega
        · have fj1 : decide (0 ≤ J) = true := decide_eq_true (by omega)
          have fj2 : decide (J < 0) = false := decide_eq_false (by omega)
          by_cases ha : (k : Int) < I
          · have fa : decide ((k : Int) < I) = true := decide_eq_true (by omega)
            by_cases hbh : J < (k : Int)
            · have fb : decide (J < (k : Int)) = true := decide_eq_true (by omega)
              clear hs
              go_wp2
              go_round
              case rel => exact ⟨k + 1, by omega, by go_num⟩
              case measure => simp [intOf]; omega
            · have fb : decide (J < (k : Int)) = false := decide_eq_false (by omega)
              clear hs
              go_wp2
              go_round
              case rel => exact ⟨k + 1, by omega, by go_num⟩
              case measure => simp [intOf]; omega
          · have fa : decide ((k : Int) < I) = false := decide_eq_false (by omega)
            by_cases hbh : J < (k : Int)
            · have fb : decide (J < (k : Int)) = true := decide_eq_true (by omega)
              clear hs
              go_wp2
              go_round
              case rel => exact ⟨k + 1, by omega, by go_num⟩
              case measure => simp [intOf]; omega
            · have fb : decide (J < (k : Int)) = false := decide_eq_false (by omega)
              exfalso
              omega
    · obtain rfl : k = n := by omega
      go_wp2
      go_ret
      exact ⟨rfl, unhide HB⟩

set_option maxHeartbeats 8000000 in
theorem spans_some (v0 v1 v2 v6 v7 v8 v9 v10 v11 v12 v13 v14 v15 v16 v17 : Value) (I J N : Int) (w : World) (hI1 : -9223372036854775808 ≤ I) (hI2 : I ≤ 9223372036854775807) (hJ1 : -9223372036854775808 ≤ J) (hJ2 : J ≤ 9223372036854775807) (hN1 : -9223372036854775808 ≤ N) (hN2 : N ≤ 9223372036854775807) (n f c : Nat) (hn : N.tmod 300 = (n : Int)) (hn300 : n < 300) (hW : Larder.winI I J n = ((f : Int), (c : Int))) (hfc : f + c ≤ n) (hcz : c ≠ 0)
    (hspan : ∀ i : Nat, i < n → ((f ≤ i ∧ i < f + c) ↔ ((0 ≤ I → I ≤ i) ∧ (I < 0 → I ≤ (i : Int) - n) ∧ (0 ≤ J → (i : Int) ≤ J) ∧ (J < 0 → (i : Int) - n ≤ J)))) :
    Calls Try.prog 3 #[.agg #[v0, v1, v2, .int .i64 I, .int .i64 J, .int .i64 N, v6, v7, v8, v9, v10, v11, v12, v13, v14, v15, v16, v17]] w fun e w' => e = .returned (.bool true) ∧ Below w.heap.size w w' := by
  have HW := hide ((wakes_any (w.alloc (.cells #[v0, v1, v2, .int .i64 I, .int .i64 J, .int .i64 N, v6, v7, v8, v9, v10, v11, v12, v13, v14, v15, v16, v17] 28))))
  go_enter Try.func3, Try.ntmps3
  go_wp2_with fail
  refine (unhide HW).mono ?_
  rintro e w1 ⟨rfl, hb1⟩
  have hr : w1.heap[w.heap.size]? = some (.cells #[v0, v1, v2, .int .i64 I, .int .i64 J, .int .i64 N, v6, v7, v8, v9, v10, v11, v12, v13, v14, v15, v16, v17] 28 (0, 0)) := (hb1.block w.heap.size (by simp)).trans (heap_alloc_new _ _)
  have c3 : w1.cell? ⟨w.heap.size, 3, none⟩ = some (.int .i64 I) := by rw [cell_of_row _ _ _ _ _ _ hr]; rfl
  have c4 : w1.cell? ⟨w.heap.size, 4, none⟩ = some (.int .i64 J) := by rw [cell_of_row _ _ _ _ _ _ hr]; rfl
  have c5 : w1.cell? ⟨w.heap.size, 5, none⟩ = some (.int .i64 N) := by rw [cell_of_row _ _ _ _ _ _ hr]; rfl
  have HB : Hid (Below w.heap.size w w1) := hide (((Below.refl _ _).alloc (Nat.le_refl _) _).trans (hb1.mono (by simp)))
  clear hr hb1 HW
  have H9 := hide (window_any I J (n : Int) w1 hI1 hI2 hJ1 hJ2 (by omega) (by omega))
  rw [hW] at H9
  have HSP := hide hspan
  clear hspan hW
  go_wp2_with fail
  refine (unhide H9).mono ?_
  rintro e w2 ⟨rfl, h⟩; obtain rfl := h.symm
  have hfc' : (f : Int) + (c : Int) ≤ (n : Int) := by omega
  have t1 : ¬ ((n : Int) < (f : Int) + (c : Int)) := by omega
  have t2 : ((c : Int) == 0) = false := by rw [beq_eq_false_iff_ne]; omega
  go_wp2_with fail
  go_loop [6] (fun i => ∃ k : Nat, k ≤ n ∧ i = .int .i64 k) (fun i => n - (intOf i).toNat)
  case atStart => exact ⟨0, by omega, rfl⟩
  case round =>
    obtain ⟨k, hk, rfl⟩ := hrel
    by_cases hlt : k < n
    · have hs := unhide HSP k hlt
      by_cases hi : I < 0
      · have fi1 : decide (0 ≤ I) = false := decide_eq_false (by omega)
        have fi2 : decide (I < 0) = true := decide_eq_true (by omega)
        by_cases hj : J < 0
        · have fj1 : decide (0 ≤ J) = false := decide_eq_false (by omega)
          have fj2 : decide (J < 0) = true := decide_eq_true (by omega)
          by_cases ha : (k : Int) - (n : Int) < I
          · have fa : decide ((k : Int) - (n : Int) < I) = true := decide_eq_true (by omega)
            by_cases hbh : J < (k : Int) - (n : Int)
            · have fb : decide (J < (k : Int) - (n : Int)) = true := decide_eq_true (by omega)
              by_cases g1 : f ≤ k
              · have g2 : ¬ k < f + c := by omega
                have g3 : decide ((f : Int) ≤ (k : Int)) = true := decide_eq_true (by omega)
                have g4 : decide ((k : Int) < (f : Int) + (c : Int)) = false := decide_eq_false (by omega)
                clear hs
                go_wp2
                go_round
                case rel => exact ⟨k + 1, by omega, by go_num⟩
                case measure => simp [intOf]; omega
              · have g3 : decide ((f : Int) ≤ (k : Int)) = false := decide_eq_false (by omega)
                clear hs
                go_wp2
                go_round
                case rel => exact ⟨k + 1, by omega, by go_num⟩
                case measure => simp [intOf]; omega
            · have fb : decide (J < (k : Int) - (n : Int)) = false := decide_eq_false (by omega)
              by_cases g1 : f ≤ k
              · have g2 : ¬ k < f + c := by omega
                have g3 : decide ((f : Int) ≤ (k : Int)) = true := decide_eq_true (by omega)
                have g4 : decide ((k : Int) < (f : Int) + (c : Int)) = false := decide_eq_false (by omega)
                clear hs
                go_wp2
                go_round
                case rel => exact ⟨k + 1, by omega, by go_num⟩
                case measure => simp [intOf]; omega
              · have g3 : decide ((f : Int) ≤ (k : Int)) = false := decide_eq_false (by omega)
                clear hs
                go_wp2
                go_round
                case rel => exact ⟨k + 1, by omega, by go_num⟩
                case measure => simp [intOf]; omega
          · have fa : decide ((k : Int) - (n : Int) < I) = false := decide_eq_false (by omega)
            by_cases hbh : J < (k : Int) - (n : Int)
            · have fb : decide (J < (k : Int) - (n : Int)) = true := decide_eq_true (by omega)
              by_cases g1 : f ≤ k
              · have g2 : ¬ k < f + c := by omega
                have g3 : decide ((f : Int) ≤ (k : Int)) = true := decide_eq_true (by omega)
                have g4 : decide ((k : Int) < (f : Int) + (c : Int)) = false := decide_eq_false (by omega)
                clear hs
                go_wp2
                go_round
                case rel => exact ⟨k + 1, by omega, by go_num⟩
                case measure => simp [intOf]; omega
              · have g3 : decide ((f : Int) ≤ (k : Int)) = false := decide_eq_false (by omega)
                clear hs
                go_wp2
                go_round
                case rel => exact ⟨k + 1, by omega, by go_num⟩
                case measure => simp [intOf]; omega
            · have fb : decide (J < (k : Int) - (n : Int)) = false := decide_eq_false (by omega)
              have g1 : f ≤ k := by omega
              have g2 : k < f + c := by omega
              have g3 : decide ((f : Int) ≤ (k : Int)) = true := decide_eq_true (by omega)
              have g4 : decide ((k : Int) < (f : Int) + (c : Int)) = true := decide_eq_true (by omega)
              clear hs
              go_wp2
              go_round
              case rel => exact ⟨k + 1, by omega, by go_num⟩
              case measure => simp [intOf]; omega
        · have fj1 : decide (0 ≤ J) = true := decide_eq_true (by omega)
          have fj2 : decide (J < 0) = false := decide_eq_false (by omega)
          by_cases ha : (k : Int) - (n : Int) < I
          · have fa : decide ((k : Int) - (n : Int) < I) = true := decide_eq_true (by omega)
            by_cases hbh : J < (k : Int)
            · have fb : decide (J < (k : Int)) = true := decide_eq_true (by omega)
              by_cases g1 : f ≤ k
              · have g2 : ¬ k < f + c := by omega
                have g3 : decide ((f : Int) ≤ (k : Int)) = true := decide_eq_true (by omega)
                have g4 : decide ((k : Int) < (f : Int) + (c : Int)) = false := decide_eq_false (by omega)
                clear hs
                go_wp2
                go_round
                case rel => exact ⟨k + 1, by omega, by go_num⟩
                case measure => simp [intOf]; omega
              · have g3 : decide ((f : Int) ≤ (k : Int)) = false := decide_eq_false (by omega)
                clear hs
                go_wp2
                go_round
                case rel => exact ⟨k + 1, by omega, by go_num⟩
                case measure => simp [intOf]; omega
            · have fb : decide (J < (k : Int)) = false := decide_eq_false (by omega)
              by_cases g1 : f ≤ k
              · have g2 : ¬ k < f + c := by omega
                have g3 : decide ((f : Int) ≤ (k : Int)) = true := decide_eq_true (by omega)
                have g4 : decide ((k : Int) < (f : Int) + (c : Int)) = false := decide_eq_false (by omega)
                clear hs
                go_wp2
                go_round
                case rel => exact ⟨k + 1, by omega, by go_num⟩
                case measure => simp [intOf]; omega
              · have g3 : decide ((f : Int) ≤ (k : Int)) = false := decide_eq_false (by omega)
                clear hs
                go_wp2
                go_round
                case rel => exact ⟨k + 1, by omega, by go_num⟩
                case measure => simp [intOf]; omega
          · have fa : decide ((k : Int) - (n : Int) < I) = false := decide_eq_false (by omega)
            by_cases hbh : J < (k : Int)
            · have fb : decide (J < (k : Int)) = true := decide_eq_true (by omega)
              by_cases g1 : f ≤ k
              · have g2 : ¬ k < f + c := by omega
                have g3 : decide ((f : Int) ≤ (k : Int)) = true := decide_eq_true (by omega)
                have g4 : decide ((k : Int) < (f : Int) + (c : Int)) = false := decide_eq_false (by omega)
                clear hs
                go_wp2
                go_round
                case rel => exact ⟨k + 1, by omega, by go_num⟩
                case measure => simp [intOf]; omega
              · have g3 : decide ((f : Int) ≤ (k : Int)) = false := decide_eq_false (by omega)
                clear hs
                go_wp2
                go_round
                case rel => exact ⟨k + 1, by omega, by go_num⟩
                case measure => simp [intOf]; omega
            · have fb : decide (J < (k : Int)) = false := decide_eq_false (by omega)
              have g1 : f ≤ k := by omega
              have g2 : k < f + c := by omega
              have g3 : decide ((f : Int) ≤ (k : Int)) = true := decide_eq_true (by omega)
              have g4 : decide ((k : Int) < (f : Int) + (c : Int)) = true := decide_eq_true (by omega)
              clear hs
              go_wp2
              go_round
              case rel => exact ⟨k + 1, by omega, by go_num⟩
              case measure => simp [intOf]; omega
      · have fi1 : decide (0 ≤ I) = true := decide_eq_true (by omega)
        have fi2 : decide (I < 0) = false := decide_eq_false (by omega)
        by_cases hj : J < 0
        · have fj1 : decide (0 ≤ J) = false := decide_eq_false (by omega)
          have fj2 : decide (J < 0) = true := decide_eq_true (by omega)
          by_cases ha : (k : Int) < I
          · have fa : decide ((k : Int) < I) = true := decide_eq_true (by omega)
            by_cases hbh : J < (k : Int) - (n : Int)
            · have fb : decide (J < (k : Int) - (n : Int)) = true := decide_eq_true (by omega)
              by_cases g1 : f ≤ k
              · have g2 : ¬ k < f + c := by omega
                have g3 : decide ((f : Int) ≤ (k : Int)) = true := decide_eq_true (by omega)
                have g4 : decide ((k : Int) < (f : Int) + (c : Int)) = false := decide_eq_false (by omega)
                clear hs
                go_wp2
                go_round
                case rel => exact ⟨k + 1, by omega, by go_num⟩
                case measure => simp [intOf]; omega
              · have g3 : decide ((f : Int) ≤ (k : Int)) = false := decide_eq_false (by omega)
                clear hs
                go_wp2
                go_round
                case rel => exact ⟨k + 1, by omega, by go_num⟩
                case measure => simp [intOf]; omega
            · have fb : decide (J < (k : Int) - (n : Int)) = false := decide_eq_false (by omega)
              by_cases g1 : f ≤ k
              · have g2 : ¬ k < f + c := by omega
                have g3 : decide ((f : Int) ≤ (k : Int)) = true := decide_eq_true (by omega)
                have g4 : decide ((k : Int) < (f : Int) + (c : Int)) = false := decide_eq_false (by omega)
                clear hs
                go_wp2
                go_round
                case rel => exact ⟨k + 1, by omega, by go_num⟩
                case measure => simp [intOf]; omega
              · have g3 : decide ((f : Int) ≤ (k : Int)) = false := decide_eq_false (by omega)
                clear hs
                go_wp2
                go_round
                case rel => exact ⟨k + 1, by omega, by go_num⟩
                case measure => simp [intOf]; omega
          · have fa : decide ((k : Int) < I) = false := decide_eq_false (by omega)
            by_cases hbh : J < (k : Int) - (n : Int)
            · have fb : decide (J < (k : Int) - (n : Int)) = true := decide_eq_true (by omega)
              by_cases g1 : f ≤ k
              · have g2 : ¬ k < f + c := by omega
                have g3 : decide ((f : Int) ≤ (k : Int)) = true := decide_eq_true (by omega)
                have g4 : decide ((k : Int) < (f : Int) + (c : Int)) = false := decide_eq_false (by omega)
                clear hs
                go_wp2
                go_round
                case rel => exact ⟨k + 1, by omega, by go_num⟩
                case measure => simp [intOf]; omega
              · have g3 : decide ((f : Int) ≤ (k : Int)) = false := decide_eq_false (by omega)
                clear hs
                go_wp2
                go_round
                case rel => exact ⟨k + 1, by omega, by go_num⟩
                case measure => simp [intOf]; omega
            · have fb : decide (J < (k : Int) - (n : Int)) = false := decide_eq_false (by omega)
              have g1 : f ≤ k := by omega
              have g2 : k < f + c := by omega
              have g3 : decide ((f : Int) ≤ (k : Int)) = true := decide_eq_true (by omega)
              have g4 : decide ((k : Int) < (f : Int) + (c : Int)) = true := decide_eq_true (by omega)
              clear hs
              go_wp2
              go_round
              case rel => exact ⟨k + 1, by omega, by go_num⟩
              case measure => simp [intOf]; omega
        · have fj1 : decide (0 ≤ J) = true := decide_eq_true (by omega)
          have fj2 : decide (J < 0) = false := decide_eq_false (by omega)
          by_cases ha : (k : Int) < I
          · have fa : decide ((k : Int) < I) = true := decide_eq_true (by omega)
            by_cases hbh : J < (k : Int)
            · have fb : decide (J < (k : Int)) = true := decide_eq_true (by omega)
              by_cases g1 : f ≤ k
              · have g2 : ¬ k < f + c := by omega
                have g3 : decide ((f : Int) ≤ (k : Int)) = true := decide_eq_true (by omega)
                have g4 : decide ((k : Int) < (f : Int) + (c : Int)) = false := decide_eq_false (by omega)
                clear hs
                go_wp2
                go_round
                case rel => exact ⟨k + 1, by omega, by go_num⟩
                case measure => simp [intOf]; omega
              · have g3 : decide ((f : Int) ≤ (k : Int)) = false := decide_eq_false (by omega)
                clear hs
                go_wp2
                go_round
                case rel => exact ⟨k + 1, by omega, by go_num⟩
                case measure => simp [intOf]; omega
            · have fb : decide (J < (k : Int)) = false := decide_eq_false (by omega)
              by_cases g1 : f ≤ k
              · have g2 : ¬ k < f + c := by omega
                have g3 : decide ((f : Int) ≤ (k : Int)) = true := decide_eq_true (by omega)
                have g4 : decide ((k : Int) < (f : Int) + (c : Int)) = false := decide_eq_false (by omega)
                clear hs
                go_wp2
                go_round
                case rel => exact ⟨k + 1, by omega, by go_num⟩
                case measure => simp [intOf]; omega
              · have g3 : decide ((f : Int) ≤ (k : Int)) = false := decide_eq_false (by omega)
                clear hs
                go_wp2
                go_round
                case rel => exact ⟨k + 1, by omega, by go_num⟩
                case measure => simp [intOf]; omega
          · have fa : decide ((k : Int) < I) = false := decide_eq_false (by omega)
            by_cases hbh : J < (k : Int)
            · have fb : decide (J < (k : Int)) = true := decide_eq_true (by omega)
              by_cases g1 : f ≤ k
              · have g2 : ¬ k < f + c := by omega
                have g3 : decide ((f : Int) ≤ (k : Int)) = true := decide_eq_true (by omega)
                have g4 : decide ((k : Int) < (f : Int) + (c : Int)) = false := decide_eq_false (by omega)
                clear hs
                go_wp2
                go_round
                case rel => exact ⟨k + 1, by omega, by go_num⟩
                case measure => simp [intOf]; omega
              · have g3 : decide ((f : Int) ≤ (k : Int)) = false := decide_eq_false (by omega)
                clear hs
                go_wp2
                go_round
                case rel => exact ⟨k + 1, by omega, by go_num⟩
                case measure => simp [intOf]; omega
            · have fb : decide (J < (k : Int)) = false := decide_eq_false (by omega)
              have g1 : f ≤ k := by omega
              have g2 : k < f + c := by omega
              have g3 : decide ((f : Int) ≤ (k : Int)) = true := decide_eq_true (by omega)
              have g4 : decide ((k : Int) < (f : Int) + (c : Int)) = true := decide_eq_true (by omega)
              clear hs
              go_wp2
              go_round
              case rel => exact ⟨k + 1, by omega, by go_num⟩
              case measure => simp [intOf]; omega
    · obtain rfl : k = n := by omega
      go_wp2
      go_ret
      exact ⟨rfl, unhide HB⟩

set_option maxHeartbeats 8000000 in
theorem spans_law (v0 v1 v2 v6 v7 v8 v9 v10 v11 v12 v13 v14 v15 v16 v17 : Value) (I J N : Int) (w : World) (hI1 : -9223372036854775808 ≤ I) (hI2 : I ≤ 9223372036854775807) (hJ1 : -9223372036854775808 ≤ J) (hJ2 : J ≤ 9223372036854775807) (hN1 : -9223372036854775808 ≤ N) (hN2 : N ≤ 9223372036854775807) :
    Calls Try.prog 3 #[.agg #[v0, v1, v2, .int .i64 I, .int .i64 J, .int .i64 N, v6, v7, v8, v9, v10, v11, v12, v13, v14, v15, v16, v17]] w fun e w' => e = .returned (.bool true) ∧ Below w.heap.size w w' := by
  have HW := hide ((wakes_any (w.alloc (.cells #[v0, v1, v2, .int .i64 I, .int .i64 J, .int .i64 N, v6, v7, v8, v9, v10, v11, v12, v13, v14, v15, v16, v17] 28))))
  have hm1 := Int.tmod_lt_of_pos N (show (0 : Int) < 300 by decide)
  by_cases hneg : N.tmod 300 < 0
  · have hn0 : N.tmod 300 < 0 := hneg
    have hW0 : Larder.winI I J 0 = (0, 0) := rfl
    go_enter Try.func3, Try.ntmps3
    go_wp2_with fail
    refine (unhide HW).mono ?_
    rintro e w1 ⟨rfl, hb1⟩
    have hr : w1.heap[w.heap.size]? = some (.cells #[v0, v1, v2, .int .i64 I, .int .i64 J, .int .i64 N, v6, v7, v8, v9, v10, v11, v12, v13, v14, v15, v16, v17] 28 (0, 0)) := (hb1.block w.heap.size (by simp)).trans (heap_alloc_new _ _)
    have c3 : w1.cell? ⟨w.heap.size, 3, none⟩ = some (.int .i64 I) := by rw [cell_of_row _ _ _ _ _ _ hr]; rfl
    have c4 : w1.cell? ⟨w.heap.size, 4, none⟩ = some (.int .i64 J) := by rw [cell_of_row _ _ _ _ _ _ hr]; rfl
    have c5 : w1.cell? ⟨w.heap.size, 5, none⟩ = some (.int .i64 N) := by rw [cell_of_row _ _ _ _ _ _ hr]; rfl
    have HB : Hid (Below w.heap.size w w1) := hide (((Below.refl _ _).alloc (Nat.le_refl _) _).trans (hb1.mono (by simp)))
    clear hr hb1 HW
    have H9 := hide (window_any I J 0 w1 hI1 hI2 hJ1 hJ2 (by omega) (by omega))
    rw [hW0] at H9
    go_wp2_with fail
    refine (unhide H9).mono ?_
    rintro e w2 ⟨rfl, h⟩; obtain rfl := h.symm
    go_wp2_with fail
    go_loop [6] (fun i => i = .int .i64 0) (fun i => 0)
    case atStart => rfl
    case round =>
      subst hrel
      go_wp2
      go_ret
      exact ⟨rfl, unhide HB⟩
  · obtain ⟨n, hn⟩ : ∃ n : Nat, N.tmod 300 = (n : Int) := ⟨(N.tmod 300).toNat, by omega⟩
    have hn300 : n < 300 := by omega
    obtain ⟨f, c, hW, hc0, hfc, hspan⟩ := Larder.win_spans I J n hn300
    by_cases hc : c = 0
    · exact spans_none v0 v1 v2 v6 v7 v8 v9 v10 v11 v12 v13 v14 v15 v16 v17 I J N w hI1 hI2 hJ1 hJ2 hN1 hN2 n f c hn hn300 hW hfc ⟨hc0 hc, hc⟩ hspan
    · exact spans_some v0 v1 v2 v6 v7 v8 v9 v10 v11 v12 v13 v14 v15 v16 v17 I J N w hI1 hI2 hJ1 hJ2 hN1 hN2 n f c hn hn300 hW hfc hc hspan
end Go.Proofs.Ytidfbelckdlbhaa
