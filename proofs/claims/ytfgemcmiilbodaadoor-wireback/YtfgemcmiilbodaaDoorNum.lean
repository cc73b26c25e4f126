/- Contracts of isPlain and read. -/
import Derived.Test.YtfgemcmiilbodaaDoorBase
import Derived.Test.YtfgemcmiilbodaaDoorNumMath
namespace Go.Proofs.YtfgemcmiilbodaaDoor
open Go.ChangeShapes Go.WideShapes Go.ChangeAt Go.RowKit
set_option linter.unusedVariables false

set_option maxHeartbeats 400000 in
theorem read_any (a : Option Addr) (cap : Nat) (w : World) (l : List Nat) (hl : l.length ≤ 140737488355328) (hd : Larder.Digs l) (hB : Bytes w a l) :
    Calls Tryd.prog 50 #[.slice a l.length cap] w fun e w' => e = .returned (.tuple (if Larder.numOf l < 18446744073709551616 then #[.int .u64 (Larder.numOf l : Nat), .bool true] else #[.int .u64 0, .bool false])) ∧ w' = w := by
  rcases hB with rfl | ⟨b, off, rfl, hb, hc⟩
  · go_enter Tryd.func50, Tryd.ntmps50
    go_wp2
    go_loop [4, 10] (fun r i => i = .int .i64 0 ∧ r = .int .u64 0) (fun _ _ => 0)
    case atStart => exact ⟨rfl, rfl⟩
    case round =>
      obtain ⟨rfl, rfl⟩ := hrel
      go_wp2
      go_ret2
      exact ⟨rfl, rfl⟩
  · have HL := hide (fun k h => Larder.numK_le l k h)
    have HE : Hid (Larder.numK l l.length = Larder.numOf l) := rfl
    have HZ : Hid (Larder.numK l 0 = 0) := rfl
    have HS := hide (fun k => Larder.numK_succ l k)
    generalize Larder.numOf l = N at *
    go_enter Tryd.func50, Tryd.ntmps50
    go_wp2
    go_loop [4, 10] (fun r i => ∃ k : Nat, k ≤ l.length ∧ i = .int .i64 k ∧ Larder.numK l k < 18446744073709551616 ∧ r = .int .u64 (Larder.numK l k : Nat)) (fun _ i => l.length - (intOf i).toNat)
    case atStart => exact ⟨0, Nat.zero_le _, rfl, by rw [unhide HZ]; omega, by rw [unhide HZ]; rfl⟩
    case round =>
      obtain ⟨k, hk, rfl, hn, rfl⟩ := hrel
      by_cases hlt : k < l.length
      · have hcx := hc k hlt
        have h1 := (hd k hlt).1
        have h2 := (hd k hlt).2
        have hs := unhide HS k
        have hle := unhide HL (k + 1) hlt
        rw [hs] at hle
        clear hc hd
        generalize l.getD k 0 = c at *
        generalize Larder.numK l k = n at *
        obtain ⟨d, rfl⟩ := Nat.exists_eq_add_of_le h1
        have hd9 : d ≤ 9 := by omega
        have e48 : (((48 + d : Nat) : Int)) - 48 = (d : Int) := by omega
        by_cases ho : 10 * n + d < 18446744073709551616
        · go_wp2
          go_round
          case rel => exact ⟨k + 1, by omega, by go_num, by omega, by rw [hs]; go_num⟩
          case measure => simp [intOf]; omega
        · go_wp2
          go_ret2
          exact ⟨by first | rfl | (rw [if_neg (show ¬ N < 18446744073709551616 by omega)]; rfl), rfl⟩
      · have he : k = l.length := by omega
        subst he
        rw [unhide HE] at hn ⊢
        go_wp2
        go_ret2
        exact ⟨by first | rfl | (rw [if_pos hn]; rfl), rfl⟩
set_option maxHeartbeats 400000 in
theorem plain_any (a : Option Addr) (cap : Nat) (w : World) (l : List Nat) (hl : l.length ≤ 140737488355328) (h256 : Small l) (hB : Bytes w a l) :
    Calls Tryd.prog 49 #[.slice a l.length cap] w fun e w' => e = .returned (.bool (Larder.plainB l)) ∧ w' = w := by
  rcases hB with rfl | ⟨b, off, rfl, hb, hc⟩
  · go_enter Tryd.func49, Tryd.ntmps49
    go_wp2
    go_ret
    exact ⟨rfl, rfl⟩
  · by_cases h0 : l.length = 0
    · obtain rfl := List.eq_nil_of_length_eq_zero h0
      clear hc h256
      go_enter Tryd.func49, Tryd.ntmps49
      go_wp2
      go_ret
      exact ⟨rfl, rfl⟩
    · have hc0 := hc 0 (by omega)
      rw [Nat.add_zero] at hc0
      have hp : 0 < l.length := by omega
      by_cases hz : l.getD 0 0 = 48 ∧ 1 < l.length
      · obtain ⟨hz0, hz1⟩ := hz
        have HF : Hid (Larder.plainB l = false) := hide (Larder.plainB_no (fun h => h.2.1 ⟨hz0, hz1⟩))
        rw [hz0] at hc0
        clear hc h256 hz0
        go_enter Tryd.func49, Tryd.ntmps49
        go_wp2
        go_ret
        exact ⟨ret_bool (unhide HF).symm, rfl⟩
      · have HZ := hide hz
        have hz' : l.getD 0 0 = 48 → l.length = 1 := by omega
        clear hz
        have hc00 := h256 0 hp
        by_cases hzz : l.getD 0 0 = 48
        · have hone := hz' hzz
          obtain ⟨x, rfl⟩ := List.length_eq_one_iff.1 hone
          obtain rfl : x = 48 := hzz
          clear hz' hc00 hone hc h256 h0 hp hl
          have hc0 : w.cell? ⟨b, off, none⟩ = some (.int .u8 48) := hc0
          show Calls Tryd.prog 49 #[.slice (some ⟨b, off, none⟩) 1 cap] w _
          go_enter Tryd.func49, Tryd.ntmps49
          go_wp2
          go_loop [21] (fun i => i = .int .i64 0 ∨ i = .int .i64 1) (fun i => 1 - (intOf i).toNat)
          case atStart => exact .inl rfl
          case round =>
            rcases hrel with rfl | rfl
            · go_wp2
              go_round
              case rel => exact .inr rfl
              case measure => simp [intOf]
            · go_wp2
              go_ret
              exact ⟨rfl, rfl⟩
        · generalize l.getD 0 0 = c0 at hc0 hc00 hz' hzz
          have e1 : ((l.length : Int) == 0) = false := by rw [beq_eq_false_iff_ne]; omega
          have e2 : ((c0 : Int) == 48) = false := by rw [beq_eq_false_iff_ne]; omega
          go_enter Tryd.func49, Tryd.ntmps49
          go_wp2
          go_loop [21] (fun i => ∃ k : Nat, k ≤ l.length ∧ i = .int .i64 k ∧ ∀ j, j < k → Larder.isDigit (l.getD j 0)) (fun i => l.length - (intOf i).toNat)
          case atStart => exact ⟨0, Nat.zero_le _, rfl, fun j hj => absurd hj (Nat.not_lt_zero _)⟩
          case round =>
            obtain ⟨k, hk, rfl, hpre⟩ := hrel
            have HP := hide hpre
            clear hpre
            by_cases hlt : k < l.length
            · have hcx := hc k hlt
              have h25 := h256 k hlt
              have HN : Hid (¬ Larder.isDigit (l.getD k 0) → Larder.plainB l = false) := hide (by
                exact fun h => Larder.plainB_no (fun h' => h (h'.2.2 k hlt)))
              have HY : Hid (Larder.isDigit (l.getD k 0) → ∀ j, j < k + 1 → Larder.isDigit (l.getD j 0)) := hide (by
                intro h j hj
                rcases Nat.lt_succ_iff_lt_or_eq.1 hj with h' | rfl
                · exact unhide HP j h'
                · exact h)
              clear hc h256
              generalize l.getD k 0 = c at *
              by_cases q1 : c < 48
              · go_wp2
                go_ret
                exact ⟨ret_bool (unhide HN (fun h => absurd h.1 (by omega))).symm, rfl⟩
              · by_cases q2 : 57 < c
                · go_wp2
                  go_ret
                  exact ⟨ret_bool (unhide HN (fun h => absurd h.2 (by omega))).symm, rfl⟩
                · go_wp2
                  go_round
                  case rel => exact ⟨k + 1, by omega, by go_num, unhide HY ⟨by omega, by omega⟩⟩
                  case measure => simp [intOf]; omega
            · have he : k = l.length := by omega
              subst he
              go_wp2
              go_ret
              exact ⟨ret_bool (Larder.plainB_yes ⟨hp, unhide HZ, unhide HP⟩).symm, rfl⟩
end Go.Proofs.YtfgemcmiilbodaaDoor
