/- Contracts of Uint and Int. -/
import Derived.Test.YtecfgbjnjgjkoaaGreatDoorNumMath
import Derived.Test.YtecfgbjnjgjkoaaGreatDoorSame
namespace Go.Proofs.YtecfgbjnjgjkoaaGreatDoor
open Go.ChangeShapes Go.WideShapes Go.ChangeAt Go.RowKit
set_option linter.unusedVariables false

set_option maxHeartbeats 400000 in
theorem read_any (a : Option Addr) (cap : Nat) (w : World) (l : List Nat) (hl : l.length ≤ 140737488355328) (hd : Larder.Digs l) (hB : Bytes w a l) :
    Calls Tryz.prog 133 #[.slice a l.length cap] w fun e w' => e = .returned (.tuple (if Larder.numOf l < 18446744073709551616 then #[.int .u64 (Larder.numOf l : Nat), .bool true] else #[.int .u64 0, .bool false])) ∧ w' = w := by
  rcases hB with rfl | ⟨b, off, rfl, hb, hc⟩
  · go_enter Tryz.func133, Tryz.ntmps133
    go_wp2
    go_loop [4, 10] (fun r i => i = .int .i64 0 ∧ r = .int .u64 0) (fun _ _ => 0)
    case atStart => exact ⟨rfl, rfl⟩
    case round =>
      obtain ⟨rfl, rfl⟩ := hrel
      go_wp2
      go_ret2
      exact ⟨rfl, rfl⟩
  · have HL := hide (fun k h => Larder.numK_le l k h)
    have HE : Hid (Larder.numK l l.length = Larder.numOf l) := rfl
    have HZ : Hid (Larder.numK l 0 = 0) := rfl
    have HS := hide (fun k => Larder.numK_succ l k)
    generalize Larder.numOf l = N at *
    go_enter Tryz.func133, Tryz.ntmps133
    go_wp2
    go_loop [4, 10] (fun r i => ∃ k : Nat, k ≤ l.length ∧ i = .int .i64 k ∧ Larder.numK l k < 18446744073709551616 ∧ r = .int .u64 (Larder.numK l k : Nat)) (fun _ i => l.length - (intOf i).toNat)
    case atStart => exact ⟨0, Nat.zero_le _, rfl, by rw [unhide HZ]; omega, by rw [unhide HZ]; rfl⟩
    case round =>
      obtain ⟨k, hk, rfl, hn, rfl⟩ := hrel
      by_cases hlt : k < l.length
      · have hcx := hc k hlt
        have h1 := (hd k hlt).1
        have h2 := (hd k hlt).2
        have hs := unhide HS k
        have hle := unhide HL (k + 1) hlt
        rw [hs] at hle
        clear hc hd
        generalize l.getD k 0 = c at *
        generalize Larder.numK l k = n at *
        obtain ⟨d, rfl⟩ := Nat.exists_eq_add_of_le h1
        have hd9 : d ≤ 9 := by omega
        have e48 : (((48 + d : Nat) : Int)) - 48 = (d : Int) := by omega
        by_cases ho : 10 * n + d < 18446744073709551616
        · go_wp2
          go_round
          case rel => exact ⟨k + 1, by omega, by go_num, by omega, by rw [hs]; go_num⟩
          case measure => simp [intOf]; omega
        · go_wp2
          go_ret2
          exact ⟨by first | rfl | (rw [if_neg (show ¬ N < 18446744073709551616 by omega)]; rfl), rfl⟩
      · have he : k = l.length := by omega
        subst he
        rw [unhide HE] at hn ⊢
        go_wp2
        go_ret2
        exact ⟨by first | rfl | (rw [if_pos hn]; rfl), rfl⟩
set_option maxHeartbeats 400000 in
theorem plain_any (a : Option Addr) (cap : Nat) (w : World) (l : List Nat) (hl : l.length ≤ 140737488355328) (h256 : Small l) (hB : Bytes w a l) :
    Calls Tryz.prog 132 #[.slice a l.length cap] w fun e w' => e = .returned (.bool (Larder.plainB l)) ∧ w' = w := by
  rcases hB with rfl | ⟨b, off, rfl, hb, hc⟩
  · go_enter Tryz.func132, Tryz.ntmps132
    go_wp2
    go_ret
    exact ⟨rfl, rfl⟩
  · by_cases h0 : l.length = 0
    · obtain rfl := List.eq_nil_of_length_eq_zero h0
      clear hc h256
      go_enter Tryz.func132, Tryz.ntmps132
      go_wp2
      go_ret
      exact ⟨rfl, rfl⟩
    · have hc0 := hc 0 (by omega)
      rw [Nat.add_zero] at hc0
      have hp : 0 < l.length := by omega
      by_cases hz : l.getD 0 0 = 48 ∧ 1 < l.length
      · obtain ⟨hz0, hz1⟩ := hz
        have HF : Hid (Larder.plainB l = false) := hide (Larder.plainB_no (fun h => h.2.1 ⟨hz0, hz1⟩))
        rw [hz0] at hc0
        clear hc h256 hz0
        go_enter Tryz.func132, Tryz.ntmps132
        go_wp2
        go_ret
        exact ⟨ret_bool (unhide HF).symm, rfl⟩
      · have HZ := hide hz
        have hz' : l.getD 0 0 = 48 → l.length = 1 := by omega
        clear hz
        have hc00 := h256 0 hp
        by_cases hzz : l.getD 0 0 = 48
        · have hone := hz' hzz
          obtain ⟨x, rfl⟩ := List.length_eq_one_iff.1 hone
          obtain rfl : x = 48 := hzz
          clear hz' hc00 hone hc h256 h0 hp hl
          have hc0 : w.cell? ⟨b, off, none⟩ = some (.int .u8 48) := hc0
          show Calls Tryz.prog 132 #[.slice (some ⟨b, off, none⟩) 1 cap] w _
          go_enter Tryz.func132, Tryz.ntmps132
          go_wp2
          go_loop [21] (fun i => i = .int .i64 0 ∨ i = .int .i64 1) (fun i => 1 - (intOf i).toNat)
          case atStart => exact .inl rfl
          case round =>
            rcases hrel with rfl | rfl
            · go_wp2
              go_round
              case rel => exact .inr rfl
              case measure => simp [intOf]
            · go_wp2
              go_ret
              exact ⟨rfl, rfl⟩
        · generalize l.getD 0 0 = c0 at hc0 hc00 hz' hzz
          have e1 : ((l.length : Int) == 0) = false := by rw [beq_eq_false_iff_ne]; omega
          have e2 : ((c0 : Int) == 48) = false := by rw [beq_eq_false_iff_ne]; omega
          go_enter Tryz.func132, Tryz.ntmps132
          go_wp2
          go_loop [21] (fun i => ∃ k : Nat, k ≤ l.length ∧ i = .int .i64 k ∧ ∀ j, j < k → Larder.isDigit (l.getD j 0)) (fun i => l.length - (intOf i).toNat)
          case atStart => exact ⟨0, Nat.zero_le _, rfl, fun j hj => absurd hj (Nat.not_lt_zero _)⟩
          case round =>
            obtain ⟨k, hk, rfl, hpre⟩ := hrel
            have HP := hide hpre
            clear hpre
            by_cases hlt : k < l.length
            · have hcx := hc k hlt
              have h25 := h256 k hlt
              have HN : Hid (¬ Larder.isDigit (l.getD k 0) → Larder.plainB l = false) := hide (by
                exact fun h => Larder.plainB_no (fun h' => h (h'.2.2 k hlt)))
              have HY : Hid (Larder.isDigit (l.getD k 0) → ∀ j, j < k + 1 → Larder.isDigit (l.getD j 0)) := hide (by
                intro h j hj
                rcases Nat.lt_succ_iff_lt_or_eq.1 hj with h' | rfl
                · exact unhide HP j h'
                · exact h)
              clear hc h256
              generalize l.getD k 0 = c at *
              by_cases q1 : c < 48
              · go_wp2
                go_ret
                exact ⟨ret_bool (unhide HN (fun h => absurd h.1 (by omega))).symm, rfl⟩
              · by_cases q2 : 57 < c
                · go_wp2
                  go_ret
                  exact ⟨ret_bool (unhide HN (fun h => absurd h.2 (by omega))).symm, rfl⟩
                · go_wp2
                  go_round
                  case rel => exact ⟨k + 1, by omega, by go_num, unhide HY ⟨by omega, by omega⟩⟩
                  case measure => simp [intOf]; omega
            · have he : k = l.length := by omega
              subst he
              go_wp2
              go_ret
              exact ⟨ret_bool (Larder.plainB_yes ⟨hp, unhide HZ, unhide HP⟩).symm, rfl⟩
end Go.Proofs.YtecfgbjnjgjkoaaGreatDoor
namespace Go.Proofs.YtecfgbjnjgjkoaaGreatDoor
open Go.ChangeShapes Go.WideShapes Go.ChangeAt Go.RowKit
set_option linter.unusedVariables false

theorem ret_two {k k' : IntKind} {a b a' b' : Int} (h : a = b) (h' : a' = b') : Ending.returned (.tuple #[.int k a, .int k' a']) = .returned (.tuple #[.int k b, .int k' b']) := by rw [h, h']
theorem wrap64_small (n : Nat) (h : n < 9223372036854775808) : wrap64 (n : Int) = (n : Int) := by
  unfold wrap64; omega
theorem plain_yes (a : Option Addr) (cap : Nat) (w : World) (l : List Nat) (hl : l.length ≤ 140737488355328) (h256 : Small l) (hB : Bytes w a l) (hp : Larder.Plain l) :
    Calls Tryz.prog 132 #[.slice a l.length cap] w fun e w' => e = .returned (.bool true) ∧ w' = w := by
  have h := plain_any a cap w l hl h256 hB
  rwa [Larder.plainB_yes hp] at h
theorem plain_no (a : Option Addr) (cap : Nat) (w : World) (l : List Nat) (hl : l.length ≤ 140737488355328) (h256 : Small l) (hB : Bytes w a l) (hp : ¬ Larder.Plain l) :
    Calls Tryz.prog 132 #[.slice a l.length cap] w fun e w' => e = .returned (.bool false) ∧ w' = w := by
  have h := plain_any a cap w l hl h256 hB
  rwa [Larder.plainB_no hp] at h
theorem read_yes (a : Option Addr) (cap : Nat) (w : World) (l : List Nat) (hl : l.length ≤ 140737488355328) (hd : Larder.Digs l) (hB : Bytes w a l) (hn : Larder.numOf l < 18446744073709551616) :
    Calls Tryz.prog 133 #[.slice a l.length cap] w fun e w' => e = .returned (.tuple #[.int .u64 (Larder.numOf l : Nat), .bool true]) ∧ w' = w := by
  have h := read_any a cap w l hl hd hB
  rwa [if_pos hn] at h
theorem read_no (a : Option Addr) (cap : Nat) (w : World) (l : List Nat) (hl : l.length ≤ 140737488355328) (hd : Larder.Digs l) (hB : Bytes w a l) (hn : ¬ Larder.numOf l < 18446744073709551616) :
    Calls Tryz.prog 133 #[.slice a l.length cap] w fun e w' => e = .returned (.tuple #[.int .u64 0, .bool false]) ∧ w' = w := by
  have h := read_any a cap w l hl hd hB
  rwa [if_neg hn] at h

/-- the part of Int behind the sign: not negative -/
theorem int_pos (a : Option Addr) (cap : Nat) (w : World) (l : List Nat) (hl : l.length ≤ 140737488355328) (h256 : Small l) (hB : Bytes w a l) (hneg : l.getD 0 0 ≠ 45) :
    Calls Tryz.prog 118 #[.slice a l.length cap] w fun e w' => e = .returned (.tuple #[.int .i64 (Larder.intRes l).1, .int .i64 ((Larder.intRes l).2 : Nat)]) ∧ w' = w := by
  classical
  rw [Larder.intRes_def]
  rw [if_neg hneg]
  by_cases h0 : l.length = 0
  · obtain rfl := List.eq_nil_of_length_eq_zero h0
    have H1 := hide (plain_no a cap w [] hl h256 hB Larder.not_plain_nil)
    clear hB h256 hneg
    rw [if_neg Larder.not_plain_nil]
    go_enter Tryz.func118, Tryz.ntmps118
    go_wp2_with fail
    refine (unhide H1).mono ?_
    rintro e w' ⟨rfl, h⟩; obtain rfl := h.symm
    go_wp2
    go_ret2
    exact ⟨rfl, rfl⟩
  · have hsh : ∃ b off, a = some ⟨b, off, none⟩ ∧ w.cell? ⟨b, off, none⟩ = some (.int .u8 (l.getD 0 0 : Nat)) := by
      rcases hB with rfl | ⟨b, off, rfl, hb, hc⟩
      · simp at h0
      · exact ⟨b, off, rfl, hc 0 (by omega)⟩
    obtain ⟨b, off, rfl, hc0⟩ := hsh
    have hpos : 0 < l.length := by omega
    have hc00 := h256 0 hpos
    generalize hg : l.getD 0 0 = c0 at hc0 hneg hc00
    have e1 : ((c0 : Int) == 45) = false := by rw [beq_eq_false_iff_ne]; omega
    have e2 : decide (0 < (l.length : Int)) = true := by simp; omega
    clear hg
    by_cases hp : Larder.Plain l
    · rw [if_pos hp]
      have hd := hp.2.2
      have H1 := hide (plain_yes _ cap w l hl h256 hB hp)
      by_cases hn : Larder.numOf l < 18446744073709551616
      · have H2 := hide (read_yes _ cap w l hl hd hB hn)
        clear hB h256 hp hd
        generalize Larder.numOf l = n at *
        by_cases hn2 : n < 9223372036854775808
        · rw [if_pos hn2]
          go_enter Tryz.func118, Tryz.ntmps118
          go_wp2_with fail
          refine (unhide H1).mono ?_
          rintro e w' ⟨rfl, h⟩; obtain rfl := h.symm
          go_wp2_with fail
          refine (unhide H2).mono ?_
          rintro e w' ⟨rfl, h⟩; obtain rfl := h.symm
          go_wp2
          go_ret2
          exact ⟨rfl, rfl⟩
        · rw [if_neg hn2]
          go_enter Tryz.func118, Tryz.ntmps118
          go_wp2_with fail
          refine (unhide H1).mono ?_
          rintro e w' ⟨rfl, h⟩; obtain rfl := h.symm
          go_wp2_with fail
          refine (unhide H2).mono ?_
          rintro e w' ⟨rfl, h⟩; obtain rfl := h.symm
          go_wp2
          go_ret2
          exact ⟨rfl, rfl⟩
      · rw [if_neg (show ¬ Larder.numOf l < 9223372036854775808 by omega)]
        have H2 := hide (read_no _ cap w l hl hd hB hn)
        clear hB h256 hp hd hn
        go_enter Tryz.func118, Tryz.ntmps118
        go_wp2_with fail
        refine (unhide H1).mono ?_
        rintro e w' ⟨rfl, h⟩; obtain rfl := h.symm
        go_wp2_with fail
        refine (unhide H2).mono ?_
        rintro e w' ⟨rfl, h⟩; obtain rfl := h.symm
        go_wp2
        go_ret2
        exact ⟨rfl, rfl⟩
    · rw [if_neg hp]
      have H1 := hide (plain_no _ cap w l hl h256 hB hp)
      clear hB h256 hp
      go_enter Tryz.func118, Tryz.ntmps118
      go_wp2_with fail
      refine (unhide H1).mono ?_
      rintro e w' ⟨rfl, h⟩; obtain rfl := h.symm
      go_wp2
      go_ret2
      exact ⟨rfl, rfl⟩
/-- Int, behind a sign -/
theorem int_neg (a : Option Addr) (cap : Nat) (w : World) (l : List Nat) (hl : l.length ≤ 140737488355328) (h256 : Small l) (hcap : l.length ≤ cap) (hcap2 : cap ≤ 9223372036854775807) (hB : Bytes w a l) (hneg : l.getD 0 0 = 45) :
    Calls Tryz.prog 118 #[.slice a l.length cap] w fun e w' => e = .returned (.tuple #[.int .i64 (Larder.intRes l).1, .int .i64 ((Larder.intRes l).2 : Nat)]) ∧ w' = w := by
  have hpos : 0 < l.length := by
    cases l with
    | nil => simp at hneg
    | cons _ _ => simp
  have hsh : ∃ b off, a = some ⟨b, off, none⟩ ∧ b < w.heap.size ∧ ∀ i, i < l.length → w.cell? ⟨b, off + i, none⟩ = some (.int .u8 (l.getD i 0 : Nat)) := by
    rcases hB with rfl | ⟨b, off, e, hb, hc⟩
    · simp at hpos
    · exact ⟨b, off, e, hb, hc⟩
  obtain ⟨b, off, rfl, hb, hc⟩ := hsh
  have hc0 : w.cell? ⟨b, off, none⟩ = some (.int .u8 45) := by
    have := hc 0 hpos; rw [hneg] at this; exact this
  have e2 : decide (0 < (l.length : Int)) = true := by simp; omega
  have hml : (l.drop 1).length = l.length - 1 := List.length_drop
  have hms : Small (l.drop 1) := fun i hi => by rw [Larder.getD_tail]; exact h256 (i + 1) (by omega)
  classical
  rw [Larder.intRes_def]
  rw [if_pos hneg]
  by_cases hcap1 : cap = 1
  · have hl1 : l.length = 1 := by omega
    have hm0 : l.drop 1 = [] := List.eq_nil_of_length_eq_zero (by omega)
    rw [hm0, if_neg (fun h => absurd h.1 Larder.not_plain_nil)]
    have H1 : Hid (Calls Tryz.prog 132 #[.slice (some ⟨b, off, none⟩) 0 0] w fun e w' => e = .returned (.bool false) ∧ w' = w) := hide (plain_no (some ⟨b, off, none⟩) 0 w [] (by decide) (fun i hi => absurd hi (Nat.not_lt_zero _)) (.inl rfl) Larder.not_plain_nil)
    rw [hl1, hcap1]
    clear hms hml hm0 hc hneg h256 hB e2 hcap hcap1 hcap2 hpos hl hl1
    go_enter Tryz.func118, Tryz.ntmps118
    go_wp2_with fail
    refine (unhide H1).mono ?_
    rintro e w' ⟨rfl, h⟩; obtain rfl := h.symm
    go_wp2
    go_ret2
    exact ⟨rfl, rfl⟩
  · have hc1 : 0 < (l.drop 1).length → w.cell? ⟨b, off + 1, none⟩ = some (.int .u8 ((l.drop 1).getD 0 0 : Nat)) := fun h => by
      rw [Larder.getD_tail]; exact hc 1 (by omega)
    have hmB : Bytes w (some ⟨b, off + 1, none⟩) (l.drop 1) := .inr ⟨b, off + 1, rfl, hb, fun i hi => by
      rw [Larder.getD_tail, Nat.add_assoc, Nat.add_comm 1 i]; exact hc (i + 1) (by omega)⟩
    have hm4 : (l.drop 1).length ≤ 140737488355328 := by omega
    clear hc h256 hB hneg
    generalize l.drop 1 = m at *
    by_cases hp : Larder.Plain m
    · have hm0 : 0 < m.length := hp.1
      have hd := hp.2.2
      have hcm := hc1 hm0
      have hm25 := hms 0 hm0
      have H1 := hide (plain_yes _ (cap - 1) w m hm4 hms hmB hp)
      rw [hml] at H1
      by_cases hz : m.getD 0 0 = 48
      · rw [if_neg (fun h => h.2 hz)]
        rw [hz] at hcm
        clear hmB hms hd hp hc1 hm25 hz
        go_enter Tryz.func118, Tryz.ntmps118
        go_wp2_with fail
        refine (unhide H1).mono ?_
        rintro e w' ⟨rfl, h⟩; obtain rfl := h.symm
        go_wp2
        go_ret2
        exact ⟨rfl, rfl⟩
      · rw [if_pos ⟨hp, hz⟩]
        have e3 : (((m.getD 0 0 : Nat) : Int) == 48) = false := by rw [beq_eq_false_iff_ne]; omega
        generalize m.getD 0 0 = c1 at hcm hm25 e3 hz
        by_cases hn : Larder.numOf m < 18446744073709551616
        · have H2 := hide (read_yes _ (cap - 1) w m hm4 hd hmB hn)
          rw [hml] at H2
          clear hmB hms hp hd hc1
          generalize Larder.numOf m = n at *
          by_cases hn2 : n ≤ 9223372036854775808
          · rw [if_pos hn2]
            have HR : Hid (wrap64 (IntKind.u64.wrap (-(n : Int))) = -(n : Int)) := hide (by rw [IntKind.wrap_u64]; unfold wrap64; omega)
            go_enter Tryz.func118, Tryz.ntmps118
            go_wp2_with fail
            refine (unhide H1).mono ?_
            rintro e w' ⟨rfl, h⟩; obtain rfl := h.symm
            go_wp2_with fail
            refine (unhide H2).mono ?_
            rintro e w' ⟨rfl, h⟩; obtain rfl := h.symm
            go_wp2
            go_ret2
            exact ⟨ret_two (unhide HR) rfl, rfl⟩
          · rw [if_neg hn2]
            go_enter Tryz.func118, Tryz.ntmps118
            go_wp2_with fail
            refine (unhide H1).mono ?_
            rintro e w' ⟨rfl, h⟩; obtain rfl := h.symm
            go_wp2_with fail
            refine (unhide H2).mono ?_
            rintro e w' ⟨rfl, h⟩; obtain rfl := h.symm
            go_wp2
            go_ret2
            exact ⟨rfl, rfl⟩
        · rw [if_neg (show ¬ Larder.numOf m ≤ 9223372036854775808 by omega)]
          have H2 := hide (read_no _ (cap - 1) w m hm4 hd hmB hn)
          rw [hml] at H2
          clear hmB hms hp hd hc1 hn
          go_enter Tryz.func118, Tryz.ntmps118
          go_wp2_with fail
          refine (unhide H1).mono ?_
          rintro e w' ⟨rfl, h⟩; obtain rfl := h.symm
          go_wp2_with fail
          refine (unhide H2).mono ?_
          rintro e w' ⟨rfl, h⟩; obtain rfl := h.symm
          go_wp2
          go_ret2
          exact ⟨rfl, rfl⟩
    · rw [if_neg (fun h => hp h.1)]
      have H1 := hide (plain_no _ (cap - 1) w m hm4 hms hmB hp)
      rw [hml] at H1
      clear hmB hms hp hc1
      go_enter Tryz.func118, Tryz.ntmps118
      go_wp2_with fail
      refine (unhide H1).mono ?_
      rintro e w' ⟨rfl, h⟩; obtain rfl := h.symm
      go_wp2
      go_ret2
      exact ⟨rfl, rfl⟩

theorem int_any (a : Option Addr) (cap : Nat) (w : World) (l : List Nat) (hl : l.length ≤ 140737488355328) (h256 : Small l) (hcap : l.length ≤ cap) (hcap2 : cap ≤ 9223372036854775807) (hB : Bytes w a l) :
    Calls Tryz.prog 118 #[.slice a l.length cap] w fun e w' => e = .returned (.tuple #[.int .i64 (Larder.intRes l).1, .int .i64 ((Larder.intRes l).2 : Nat)]) ∧ w' = w := by
  by_cases h : l.getD 0 0 = 45
  · exact int_neg a cap w l hl h256 hcap hcap2 hB h
  · exact int_pos a cap w l hl h256 hB h
end Go.Proofs.YtecfgbjnjgjkoaaGreatDoor
