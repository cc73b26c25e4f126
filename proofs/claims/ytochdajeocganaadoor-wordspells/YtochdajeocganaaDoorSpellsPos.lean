/- WordSpells, one case. -/
import Derived.Test.YtochdajeocganaaDoorSpells
namespace Go.Proofs.YtochdajeocganaaDoor
open Go.ChangeShapes Go.WideShapes Go.ChangeAt Go.RowKit
set_option linter.unusedVariables false

set_option maxRecDepth 100000 in
set_option maxHeartbeats 4000000 in
theorem lawPos (N M : Int) (hN1 : -9223372036854775808 ≤ N) (hN2 : N ≤ 9223372036854775807) (hM1 : -9223372036854775808 ≤ M) (hM2 : M ≤ 9223372036854775807) (x : Nat) (hx : x < 18446744073709551616)
    (a : Option Addr) (cap : Nat) (l : List Nat) (hs : Small l) (w : World) (hB : Bytes w a l) (ht : Tab w) (k : Nat) (hk : k < 9223372036854775808)
    (HT : Hid (∀ w', Tab w' → Calls Tryd.prog 5 #[.int .i64 (k : Int)] w' fun e w'' => ∃ a c, e = .returned (.slice a l.length c) ∧ Bytes w'' a l ∧ Below w'.heap.size w' w''))
    (HD : Hid (∀ w', Tab w' → Calls Tryd.prog 9 #[.int .u64 k] w' fun e w'' => ∃ a c, e = .returned (.slice a l.length c) ∧ Bytes w'' a l ∧ Below w'.heap.size w' w''))
    (HI : Hid (∀ w', Bytes w' a l → Calls Tryd.prog 4 #[.slice a l.length cap] w' fun e w'' => e = .returned (.tuple #[.int .i64 (k : Int), .int .i64 0]) ∧ w'' = w'))
    (HU : Hid (∀ w', Bytes w' a l → Calls Tryd.prog 8 #[.slice a l.length cap] w' fun e w'' => e = .returned (.tuple #[.int .u64 k, .int .i64 0]) ∧ w'' = w')) :
    Calls Tryd.prog 3 #[.agg #[.int .i64 N, .int .i64 M, .int .u64 x, .slice a l.length cap]] w fun e w' => e = .returned (.bool true) ∧ Below w.heap.size w w' := by
  have hb0 : Below w.heap.size w (w.alloc (.cells #[.int .i64 N, .int .i64 M, .int .u64 x, .slice a l.length cap] 25)) := (Below.refl _ _).alloc (Nat.le_refl _) _
  have ht0 := ht.below hb0
  have hB0 := hB.below hb0
  clear hB ht
  have HS := hide hs
  clear hs
  have HA : Hid (∀ w' : World, Calls Tryd.prog 10 #[.int .i64 N, .int .i64 M] w' fun e w'' => e = .returned (.tuple #[.int .i64 (addRes N M).1, .int .i64 ((addRes N M).2 : Nat)]) ∧ w'' = w') := hide (fun w' => add_any N M w' hN1 hN2 hM1 hM2)
  obtain ⟨sm, hsm⟩ : ∃ s, s = (addRes N M).1 := ⟨_, rfl⟩
  obtain ⟨g, hg⟩ : ∃ g, g = (addRes N M).2 := ⟨_, rfl⟩
  rw [← hsm, ← hg] at HA
  have HX : Hid ((sm = N + M ∧ g = 0 ∧ -9223372036854775808 ≤ N + M ∧ N + M ≤ 9223372036854775807) ∨ (sm = 0 ∧ g = 13 ∧ ¬ (-9223372036854775808 ≤ N + M ∧ N + M ≤ 9223372036854775807))) := hide (by
    unfold addRes at hsm hg
    by_cases h : -9223372036854775808 ≤ N + M ∧ N + M ≤ 9223372036854775807
    · rw [if_pos h] at hsm hg; exact .inl ⟨hsm, hg, h⟩
    · rw [if_neg h] at hsm hg; exact .inr ⟨hsm, hg, h⟩)
  clear hsm hg
  have hw : ((k : Int) != IntKind.u64.wrap (k : Int)) = false := by rw [wrap_u64_small k (by omega), bne_self_eq_false]
  go_enter Tryd.func3, Tryd.ntmps3
  go_wp2_with fail
  refine (text_out N hN1 hN2 _ ht0).mono ?_
  rintro e w1 ⟨a1, c1, rfl, hB1, hc1, hb1⟩
  have qT := hide (ht0.below hb1)
  have q0 : w1.cell? ⟨w.heap.size, 0, none⟩ = some (.int .i64 N) := field_at hb1 0
  have q1 : w1.cell? ⟨w.heap.size, 1, none⟩ = some (.int .i64 M) := field_at hb1 1
  have q2 : w1.cell? ⟨w.heap.size, 2, none⟩ = some (.int .u64 x) := field_at hb1 2
  have q3 : w1.cell? ⟨w.heap.size, 3, none⟩ = some (.slice a l.length cap) := field_at hb1 3
  have qY := hide (hB0.below hb1)
  have qlt : Hid (w.heap.size < w1.heap.size) := hide (by have := hb1.size; simp at this; omega)
  have qZ := hide (chain hb0 hb1 hb0.size)
  clear hb1 hb0 ht0 hB0
  go_wp2_with fail
  refine (int_text N hN1 hN2 a1 c1 w1 hB1 hc1).mono ?_
  rintro e w' ⟨rfl, hw'⟩
  obtain rfl := hw'.symm
  clear hB1 hc1
  go_wp2_with fail
  refine (num_any 0 w1).mono ?_
  rintro e w' ⟨rfl, hw'⟩
  obtain rfl := hw'.symm
  go_wp2_with fail
  refine (unhide HI w1 (unhide qY)).mono ?_
  rintro e w' ⟨rfl, hw'⟩
  obtain rfl := hw'.symm
  go_wp2_with fail
  first | go_region_held3 (fun w' => w'.cell? ⟨w.heap.size, 3, none⟩ = some (.slice a l.length cap) ∧ Below w1.heap.size w1 w')
    (first | exact keep_drew q3 (Below.refl _ _) | assumption | exact keep_call (unhide qlt) (by assumption) (by assumption))
    (first
      | (go_at_call 6; refine (num_any _ _).mono ?_; rintro e w9 ⟨rfl, hw9⟩; obtain rfl := hw9.symm)
      | (go_at_call 5; refine (unhide HT _ ((unhide qT).below (And.right (by assumption : World.cell? _ ⟨w.heap.size, 3, none⟩ = some (.slice a l.length cap) ∧ Below w1.heap.size w1 _)))).mono ?_; rintro e w1x ⟨w1a, w1c, rfl, w1B, w1b⟩)
      | (go_at_call 9; refine (unhide HD _ ((unhide qT).below (And.right (by assumption : World.cell? _ ⟨w.heap.size, 3, none⟩ = some (.slice a l.length cap) ∧ Below w1.heap.size w1 _)))).mono ?_; rintro e w1x ⟨w1a, w1c, rfl, w1B, w1b⟩)
      | (go_at_call 7; refine (same_yes _ _ _ _ _ l (by assumption) ((unhide qY).below (And.right (by assumption : World.cell? _ ⟨w.heap.size, 3, none⟩ = some (.slice a l.length cap) ∧ Below w1.heap.size w1 _))) (unhide HS)).mono ?_; rintro e w9 ⟨rfl, hw9⟩; obtain rfl := hw9.symm)) | fail
  clear w1B
  have rk : Below w1.heap.size w1 w1x := (keep_drew q3 (Below.refl w1.heap.size w1)).2.trans w1b
  have r0 : w1x.cell? ⟨w.heap.size, 0, none⟩ = some (.int .i64 N) := (rk.cell (p := ⟨w.heap.size, 0, none⟩) (unhide qlt)).trans q0
  have r1 : w1x.cell? ⟨w.heap.size, 1, none⟩ = some (.int .i64 M) := (rk.cell (p := ⟨w.heap.size, 1, none⟩) (unhide qlt)).trans q1
  have r2 : w1x.cell? ⟨w.heap.size, 2, none⟩ = some (.int .u64 x) := (rk.cell (p := ⟨w.heap.size, 2, none⟩) (unhide qlt)).trans q2
  have r3 : w1x.cell? ⟨w.heap.size, 3, none⟩ = some (.slice a l.length cap) := (rk.cell (p := ⟨w.heap.size, 3, none⟩) (unhide qlt)).trans q3
  have rlt : Hid (w.heap.size < w1x.heap.size) := hide (Nat.lt_of_lt_of_le (unhide qlt) rk.size)
  have rT := hide ((unhide qT).below rk)
  have rY := hide ((unhide qY).below rk)
  have rZ := hide (chain (unhide qZ) rk (unhide qZ).size)
  clear q0 q1 q2 q3 qlt qT qY qZ rk
  clear w1b
  go_wp2_with fail
  refine (digits_out x hx _ (unhide rT)).mono ?_
  rintro e w3 ⟨a3, c3, rfl, hB3, hb3⟩
  have sk : Below w1x.heap.size w1x w3 := hb3
  have s0 : w3.cell? ⟨w.heap.size, 0, none⟩ = some (.int .i64 N) := (sk.cell (p := ⟨w.heap.size, 0, none⟩) (unhide rlt)).trans r0
  have s1 : w3.cell? ⟨w.heap.size, 1, none⟩ = some (.int .i64 M) := (sk.cell (p := ⟨w.heap.size, 1, none⟩) (unhide rlt)).trans r1
  have s2 : w3.cell? ⟨w.heap.size, 2, none⟩ = some (.int .u64 x) := (sk.cell (p := ⟨w.heap.size, 2, none⟩) (unhide rlt)).trans r2
  have s3 : w3.cell? ⟨w.heap.size, 3, none⟩ = some (.slice a l.length cap) := (sk.cell (p := ⟨w.heap.size, 3, none⟩) (unhide rlt)).trans r3
  have slt : Hid (w.heap.size < w3.heap.size) := hide (Nat.lt_of_lt_of_le (unhide rlt) sk.size)
  have sT := hide ((unhide rT).below sk)
  have sY := hide ((unhide rY).below sk)
  have sZ := hide (chain (unhide rZ) sk (unhide rZ).size)
  clear r0 r1 r2 r3 rlt rT rY rZ sk
  clear hb3
  go_wp2_with fail
  refine (uint_text x hx a3 c3 w3 hB3).mono ?_
  rintro e w' ⟨rfl, hw'⟩
  obtain rfl := hw'.symm
  clear hB3
  go_wp2_with fail
  refine (num_any 0 w3).mono ?_
  rintro e w' ⟨rfl, hw'⟩
  obtain rfl := hw'.symm
  go_wp2_with fail
  refine (unhide HU w3 (unhide sY)).mono ?_
  rintro e w' ⟨rfl, hw'⟩
  obtain rfl := hw'.symm
  go_wp2_with fail
  first | go_region_held3 (fun w' => w'.cell? ⟨w.heap.size, 3, none⟩ = some (.slice a l.length cap) ∧ Below w3.heap.size w3 w')
    (first | exact keep_drew s3 (Below.refl _ _) | assumption | exact keep_call (unhide slt) (by assumption) (by assumption))
    (first
      | (go_at_call 6; refine (num_any _ _).mono ?_; rintro e w9 ⟨rfl, hw9⟩; obtain rfl := hw9.symm)
      | (go_at_call 5; refine (unhide HT _ ((unhide sT).below (And.right (by assumption : World.cell? _ ⟨w.heap.size, 3, none⟩ = some (.slice a l.length cap) ∧ Below w3.heap.size w3 _)))).mono ?_; rintro e w3x ⟨w3a, w3c, rfl, w3B, w3b⟩)
      | (go_at_call 9; refine (unhide HD _ ((unhide sT).below (And.right (by assumption : World.cell? _ ⟨w.heap.size, 3, none⟩ = some (.slice a l.length cap) ∧ Below w3.heap.size w3 _)))).mono ?_; rintro e w3x ⟨w3a, w3c, rfl, w3B, w3b⟩)
      | (go_at_call 7; refine (same_yes _ _ _ _ _ l (by assumption) ((unhide sY).below (And.right (by assumption : World.cell? _ ⟨w.heap.size, 3, none⟩ = some (.slice a l.length cap) ∧ Below w3.heap.size w3 _))) (unhide HS)).mono ?_; rintro e w9 ⟨rfl, hw9⟩; obtain rfl := hw9.symm)) | fail
  clear w3B
  have uk : Below w3.heap.size w3 w3x := (keep_drew s3 (Below.refl w3.heap.size w3)).2.trans w3b
  have u0 : w3x.cell? ⟨w.heap.size, 0, none⟩ = some (.int .i64 N) := (uk.cell (p := ⟨w.heap.size, 0, none⟩) (unhide slt)).trans s0
  have u1 : w3x.cell? ⟨w.heap.size, 1, none⟩ = some (.int .i64 M) := (uk.cell (p := ⟨w.heap.size, 1, none⟩) (unhide slt)).trans s1
  have u2 : w3x.cell? ⟨w.heap.size, 2, none⟩ = some (.int .u64 x) := (uk.cell (p := ⟨w.heap.size, 2, none⟩) (unhide slt)).trans s2
  have u3 : w3x.cell? ⟨w.heap.size, 3, none⟩ = some (.slice a l.length cap) := (uk.cell (p := ⟨w.heap.size, 3, none⟩) (unhide slt)).trans s3
  have ult : Hid (w.heap.size < w3x.heap.size) := hide (Nat.lt_of_lt_of_le (unhide slt) uk.size)
  have uT := hide ((unhide sT).below uk)
  have uY := hide ((unhide sY).below uk)
  have uZ := hide (chain (unhide sZ) uk (unhide sZ).size)
  clear s0 s1 s2 s3 slt sT sY sZ uk
  clear w3b
  go_wp2_with fail
  refine (unhide HA _).mono ?_
  rintro e w' ⟨rfl, hw'⟩
  obtain rfl := hw'.symm
  have HZ := hide (unhide uZ)
  rcases unhide HX with ⟨rfl, rfl, hb1, hb2⟩ | ⟨rfl, rfl, hb⟩
  · by_cases hM : 0 ≤ M
    · have e1 : decide (N ≤ N + M) = true := decide_eq_true (by omega)
      have e2 : decide (0 ≤ M) = true := decide_eq_true hM
      go_wp2_with fail
      refine (num_any _ _).mono ?_
      rintro e w' ⟨rfl, hw'⟩
      obtain rfl := hw'.symm
      go_wp2
      go_ret
      exact ⟨rfl, unhide HZ⟩
    · have e1 : decide (N ≤ N + M) = false := decide_eq_false (by omega)
      have e2 : decide (0 ≤ M) = false := decide_eq_false hM
      go_wp2_with fail
      refine (num_any _ _).mono ?_
      rintro e w' ⟨rfl, hw'⟩
      obtain rfl := hw'.symm
      go_wp2
      go_ret
      exact ⟨rfl, unhide HZ⟩
  · by_cases hM : 0 ≤ M
    · have e1 : decide (N < 0) = false := decide_eq_false (by omega)
      have e2 : decide (0 ≤ M) = true := decide_eq_true hM
      go_wp2_with fail
      refine (num_any _ _).mono ?_
      rintro e w' ⟨rfl, hw'⟩
      obtain rfl := hw'.symm
      go_wp2
      go_ret
      exact ⟨rfl, unhide HZ⟩
    · have e1 : decide (N < 0) = true := decide_eq_true (by omega)
      have e2 : decide (0 ≤ M) = false := decide_eq_false hM
      go_wp2_with fail
      refine (num_any _ _).mono ?_
      rintro e w' ⟨rfl, hw'⟩
      obtain rfl := hw'.symm
      go_wp2
      go_ret
      exact ⟨rfl, unhide HZ⟩
end Go.Proofs.YtochdajeocganaaDoor
