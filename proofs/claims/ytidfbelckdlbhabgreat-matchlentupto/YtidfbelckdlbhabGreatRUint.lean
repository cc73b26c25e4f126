/- The document's Uint. -/
import Derived.Test.YtidfbelckdlbhabGreatStr
import Derived.Test.YtidfbelckdlbhabGreatNumber
namespace Go.Proofs.YtidfbelckdlbhabGreat
open Go.ChangeShapes Go.WideShapes Go.ChangeAt Go.RowKit
set_option linter.unusedVariables false
set_option maxRecDepth 20000

/-- a spelling without its sign -/
def bare (l : List Nat) : List Nat := if 1 < l.length ∧ l.getD 0 0 = 45 ∧ l.getD 1 0 ≠ 48 then l.drop 1 else l

set_option maxHeartbeats 400000 in
/-- digits, where a sign is cut off -/
theorem digits_cut (a : Option Addr) (cap : Nat) (w : World) (l : List Nat) (hl : l.length ≤ 140737488355328) (h256 : Small l) (hB : Bytes w a l) (h1 : 1 < l.length) (h2 : l.getD 0 0 = 45) (h3 : l.getD 1 0 ≠ 48) :
    Calls Tryz.prog 102 #[.slice a l.length cap] w fun e w' => ((Larder.Plain (l.drop 1) ∧ e = .returned (.tuple #[.string (str (l.drop 1)), .bool true])) ∨ (¬ Larder.Plain (l.drop 1) ∧ e = .returned (.tuple #[.string ⟨#[]⟩, .bool false]))) ∧ w' = w := by
  have hcv := conv_any a cap w l hB
  change (convert 34 9 (.slice a l.length cap)).run Tryz.prog w = .ok (.string (str l)) w at hcv
  have hsz := str_size l
  have hx0 : ∀ h, ((str l)[0]'h).toNat = 45 := fun h => by rw [str_get l h256 0 h]; exact h2
  have hx1 : ∀ h, ((str l)[1]'h).toNat = l.getD 1 0 := fun h => str_get l h256 1 h
  have hcut := str_tail l
  have hms : Small (l.drop 1) := fun i hi => by
    rw [Larder.getD_tail]; rw [List.length_drop] at hi; exact h256 (i + 1) (by omega)
  have hml : (l.drop 1).length = l.length - 1 := List.length_drop
  have HT := hide (fun k h => str_get (l.drop 1) hms k h)
  have HS := hide hms
  have hst := str_size (l.drop 1)
  have hne : (str (l.drop 1)).toList.isEmpty = false := by
    rw [str_toList, List.isEmpty_eq_false_iff]
    intro h; have := congrArg List.length h; simp at this; omega
  have hb1 := h256 1 h1
  have e3 : (((l.getD 1 0 : Nat) : Int) != 48) = true := by rw [bne_iff_ne]; omega
  clear hB hms h256
  generalize l.drop 1 = m at *
  generalize str l = S at *
  generalize hT : str m = T at *
  clear hT
  generalize l.getD 1 0 = c1 at *
  rw [hml] at hst
  have e2 : decide (1 < (l.length : Int)) = true := by simp; omega
  go_enter Tryz.func102, Tryz.ntmps102
  go_wp2
  go_loop [5] (fun i => ∃ k : Nat, k ≤ (l.length - 1) ∧ i = .int .i64 k ∧ ∀ j, j < k → Larder.isDigit (m.getD j 0)) (fun i => (l.length - 1) - (intOf i).toNat)
  case atStart => exact ⟨0, Nat.zero_le _, rfl, fun j hj => absurd hj (Nat.not_lt_zero _)⟩
  case round =>
    obtain ⟨k, hk, rfl, hpre⟩ := hrel
    have HP := hide hpre
    clear hpre
    by_cases hlt : k < (l.length - 1)
    · have hcx : ∀ h, (T[k]'h).toNat = m.getD k 0 := fun h => unhide HT k h
      have h25 := unhide HS k (by omega)
      have HN : Hid (¬ Larder.isDigit (m.getD k 0) → ¬ Larder.Plain m) := hide (by
        intro h h'; exact h (h'.2.2 k (by omega)))
      have HY : Hid (Larder.isDigit (m.getD k 0) → ∀ j, j < k + 1 → Larder.isDigit (m.getD j 0)) := hide (by
        intro h j hj
        rcases Nat.lt_succ_iff_lt_or_eq.1 hj with h' | rfl
        · exact unhide HP j h'
        · exact h)
      generalize m.getD k 0 = c at *
      by_cases q1 : c < 48
      · go_wp2
        go_ret2
        exact ⟨.inr ⟨unhide HN (fun h => absurd h.1 (by omega)), rfl⟩, rfl⟩
      · by_cases q2 : 57 < c
        · go_wp2
          go_ret2
          exact ⟨.inr ⟨unhide HN (fun h => absurd h.2 (by omega)), rfl⟩, rfl⟩
        · go_wp2
          go_round
          case rel => exact ⟨k + 1, by omega, by go_num, unhide HY ⟨by omega, by omega⟩⟩
          case measure => simp [intOf]; omega
    · have he : k = (l.length - 1) := by omega
      subst he
      have hc0 : ∀ h, (T[0]'h).toNat = m.getD 0 0 := fun h => unhide HT 0 h
      by_cases hz : m.getD 0 0 = 48
      · rw [hz] at hc0
        by_cases q : 1 < (l.length - 1)
        · first
            | (exfalso; omega)
            | (have HN : Hid (¬ Larder.Plain m) := hide (fun h => h.2.1 ⟨hz, by omega⟩)
               clear hz
               go_wp2
               go_ret2
               exact ⟨.inr ⟨unhide HN, rfl⟩, rfl⟩)
        · first
            | (exfalso; omega)
            | (have HN : Hid (Larder.Plain m) := hide ⟨by omega, fun h => q (by omega), fun j hj => unhide HP j (by omega)⟩
               clear hz
               go_wp2
               go_ret2
               exact ⟨.inl ⟨unhide HN, rfl⟩, rfl⟩)
      · have HN : Hid (Larder.Plain m) := hide ⟨by omega, fun h => hz h.1, fun j hj => unhide HP j (by omega)⟩
        have h25 := unhide HS 0 (by omega)
        generalize m.getD 0 0 = c0 at *
        go_wp2
        go_ret2
        exact ⟨.inl ⟨unhide HN, rfl⟩, rfl⟩

set_option maxHeartbeats 1000000 in
/-- digits, where nothing is cut off -/
theorem digits_whole (a : Option Addr) (cap : Nat) (w : World) (l : List Nat) (hl : l.length ≤ 140737488355328) (h256 : Small l) (hB : Bytes w a l) (hn : ¬ (1 < l.length ∧ l.getD 0 0 = 45 ∧ l.getD 1 0 ≠ 48)) :
    Calls Tryz.prog 102 #[.slice a l.length cap] w fun e w' => ((Larder.Plain l ∧ e = .returned (.tuple #[.string (str l), .bool true])) ∨ (¬ Larder.Plain l ∧ e = .returned (.tuple #[.string ⟨#[]⟩, .bool false]))) ∧ w' = w := by
  have hcv := conv_any a cap w l hB
  change (convert 34 9 (.slice a l.length cap)).run Tryz.prog w = .ok (.string (str l)) w at hcv
  have hst := str_size l
  have HT := hide (fun k h => str_get l h256 k h)
  have HS := hide h256
  by_cases h0 : l.length = 0
  · have hne : (str l).toList.isEmpty = true := by
      rw [str_toList, List.eq_nil_of_length_eq_zero h0]; rfl
    have HN : Hid (¬ Larder.Plain l) := hide (fun h => by have := h.1; omega)
    clear hB h256 hn HT HS
    generalize str l = T at *
    rw [h0] at hst hcv ⊢
    clear hl h0
    go_enter Tryz.func102, Tryz.ntmps102
    go_wp2
    go_ret2
    exact ⟨.inr ⟨unhide HN, rfl⟩, rfl⟩
  have hne : (str l).toList.isEmpty = false := by
    rw [str_toList, List.isEmpty_eq_false_iff]
    intro h; have := congrArg List.length h; rw [List.length_map] at this; exact h0 this
  clear hB
  by_cases h1 : 1 < l.length
  · have e2 : decide (1 < (l.length : Int)) = true := by simp; omega
    have hb0 := h256 0 (by omega)
    have hb1 := h256 1 h1
    have hx0 : ∀ h, ((str l)[0]'h).toNat = l.getD 0 0 := fun h => str_get l h256 0 h
    by_cases h2 : l.getD 0 0 = 45
    · have h3 : l.getD 1 0 = 48 := by omega
      have hx1 : ∀ h, ((str l)[1]'h).toNat = 48 := fun h => by rw [str_get l h256 1 h]; exact h3
      rw [h2] at hx0
      clear h256 hn hb0 hb1 h3
      generalize str l = T at *
      go_enter Tryz.func102, Tryz.ntmps102
      go_wp2
      go_loop [5] (fun i => ∃ k : Nat, k ≤ l.length ∧ i = .int .i64 k ∧ ∀ j, j < k → Larder.isDigit (l.getD j 0)) (fun i => l.length - (intOf i).toNat)
      case atStart => exact ⟨0, Nat.zero_le _, rfl, fun j hj => absurd hj (Nat.not_lt_zero _)⟩
      case round =>
        obtain ⟨k, hk, rfl, hpre⟩ := hrel
        have HP := hide hpre
        clear hpre
        by_cases hlt : k < l.length
        · have hcx : ∀ h, (T[k]'h).toNat = l.getD k 0 := fun h => unhide HT k h
          have h25 := unhide HS k (by omega)
          have HN : Hid (¬ Larder.isDigit (l.getD k 0) → ¬ Larder.Plain l) := hide (by
            intro h h'; exact h (h'.2.2 k (by omega)))
          have HY : Hid (Larder.isDigit (l.getD k 0) → ∀ j, j < k + 1 → Larder.isDigit (l.getD j 0)) := hide (by
            intro h j hj
            rcases Nat.lt_succ_iff_lt_or_eq.1 hj with h' | rfl
            · exact unhide HP j h'
            · exact h)
          generalize l.getD k 0 = c at *
          by_cases q1 : c < 48
          · go_wp2
            go_ret2
            exact ⟨.inr ⟨unhide HN (fun h => absurd h.1 (by omega)), rfl⟩, rfl⟩
          · by_cases q2 : 57 < c
            · go_wp2
              go_ret2
              exact ⟨.inr ⟨unhide HN (fun h => absurd h.2 (by omega)), rfl⟩, rfl⟩
            · go_wp2
              go_round
              case rel => exact ⟨k + 1, by omega, by go_num, unhide HY ⟨by omega, by omega⟩⟩
              case measure => simp [intOf]; omega
        · have he : k = l.length := by omega
          subst he
          have hc0 : ∀ h, (T[0]'h).toNat = l.getD 0 0 := fun h => unhide HT 0 h
          by_cases hz : l.getD 0 0 = 48
          · rw [hz] at hc0
            by_cases q : 1 < l.length
            · first
                | (exfalso; omega)
                | (have HN : Hid (¬ Larder.Plain l) := hide (fun h => h.2.1 ⟨hz, by omega⟩)
                   clear hz
                   go_wp2
                   go_ret2
                   exact ⟨.inr ⟨unhide HN, rfl⟩, rfl⟩)
            · first
                | (exfalso; omega)
                | (have HN : Hid (Larder.Plain l) := hide ⟨by omega, fun h => q (by omega), fun j hj => unhide HP j (by omega)⟩
                   clear hz
                   go_wp2
                   go_ret2
                   exact ⟨.inl ⟨unhide HN, rfl⟩, rfl⟩)
          · have HN : Hid (Larder.Plain l) := hide ⟨by omega, fun h => hz h.1, fun j hj => unhide HP j (by omega)⟩
            have h25 := unhide HS 0 (by omega)
            generalize l.getD 0 0 = c0 at *
            go_wp2
            go_ret2
            exact ⟨.inl ⟨unhide HN, rfl⟩, rfl⟩
    · have e3 : (((l.getD 0 0 : Nat) : Int) == 45) = false := by rw [beq_eq_false_iff_ne]; omega
      clear h256 hn hb1
      generalize str l = T at *
      have HH := hide h2
      generalize l.getD 0 0 = c0 at hx0 e3 hb0 h2
      go_enter Tryz.func102, Tryz.ntmps102
      go_wp2
      clear hx0 e3 hb0 h2
      go_loop [5] (fun i => ∃ k : Nat, k ≤ l.length ∧ i = .int .i64 k ∧ ∀ j, j < k → Larder.isDigit (l.getD j 0)) (fun i => l.length - (intOf i).toNat)
      case atStart => exact ⟨0, Nat.zero_le _, rfl, fun j hj => absurd hj (Nat.not_lt_zero _)⟩
      case round =>
        obtain ⟨k, hk, rfl, hpre⟩ := hrel
        have HP := hide hpre
        clear hpre
        by_cases hlt : k < l.length
        · have hcx : ∀ h, (T[k]'h).toNat = l.getD k 0 := fun h => unhide HT k h
          have h25 := unhide HS k (by omega)
          have HN : Hid (¬ Larder.isDigit (l.getD k 0) → ¬ Larder.Plain l) := hide (by
            intro h h'; exact h (h'.2.2 k (by omega)))
          have HY : Hid (Larder.isDigit (l.getD k 0) → ∀ j, j < k + 1 → Larder.isDigit (l.getD j 0)) := hide (by
            intro h j hj
            rcases Nat.lt_succ_iff_lt_or_eq.1 hj with h' | rfl
            · exact unhide HP j h'
            · exact h)
          generalize l.getD k 0 = c at *
          by_cases q1 : c < 48
          · go_wp2
            go_ret2
            exact ⟨.inr ⟨unhide HN (fun h => absurd h.1 (by omega)), rfl⟩, rfl⟩
          · by_cases q2 : 57 < c
            · go_wp2
              go_ret2
              exact ⟨.inr ⟨unhide HN (fun h => absurd h.2 (by omega)), rfl⟩, rfl⟩
            · go_wp2
              go_round
              case rel => exact ⟨k + 1, by omega, by go_num, unhide HY ⟨by omega, by omega⟩⟩
              case measure => simp [intOf]; omega
        · have he : k = l.length := by omega
          subst he
          have hc0 : ∀ h, (T[0]'h).toNat = l.getD 0 0 := fun h => unhide HT 0 h
          by_cases hz : l.getD 0 0 = 48
          · rw [hz] at hc0
            by_cases q : 1 < l.length
            · first
                | (exfalso; omega)
                | (have HN : Hid (¬ Larder.Plain l) := hide (fun h => h.2.1 ⟨hz, by omega⟩)
                   clear hz
                   go_wp2
                   go_ret2
                   exact ⟨.inr ⟨unhide HN, rfl⟩, rfl⟩)
            · first
                | (exfalso; omega)
                | (have HN : Hid (Larder.Plain l) := hide ⟨by omega, fun h => q (by omega), fun j hj => unhide HP j (by omega)⟩
                   clear hz
                   go_wp2
                   go_ret2
                   exact ⟨.inl ⟨unhide HN, rfl⟩, rfl⟩)
          · have HN : Hid (Larder.Plain l) := hide ⟨by omega, fun h => hz h.1, fun j hj => unhide HP j (by omega)⟩
            have h25 := unhide HS 0 (by omega)
            generalize l.getD 0 0 = c0 at *
            go_wp2
            go_ret2
            exact ⟨.inl ⟨unhide HN, rfl⟩, rfl⟩
  · have e2 : decide (1 < (l.length : Int)) = false := by simp; omega
    clear h256 hn
    generalize str l = T at *
    go_enter Tryz.func102, Tryz.ntmps102
    go_wp2
    go_loop [5] (fun i => ∃ k : Nat, k ≤ l.length ∧ i = .int .i64 k ∧ ∀ j, j < k → Larder.isDigit (l.getD j 0)) (fun i => l.length - (intOf i).toNat)
    case atStart => exact ⟨0, Nat.zero_le _, rfl, fun j hj => absurd hj (Nat.not_lt_zero _)⟩
    case round =>
      obtain ⟨k, hk, rfl, hpre⟩ := hrel
      have HP := hide hpre
      clear hpre
      by_cases hlt : k < l.length
      · have hcx : ∀ h, (T[k]'h).toNat = l.getD k 0 := fun h => unhide HT k h
        have h25 := unhide HS k (by omega)
        have HN : Hid (¬ Larder.isDigit (l.getD k 0) → ¬ Larder.Plain l) := hide (by
          intro h h'; exact h (h'.2.2 k (by omega)))
        have HY : Hid (Larder.isDigit (l.getD k 0) → ∀ j, j < k + 1 → Larder.isDigit (l.getD j 0)) := hide (by
          intro h j hj
          rcases Nat.lt_succ_iff_lt_or_eq.1 hj with h' | rfl
          · exact unhide HP j h'
          · exact h)
        generalize l.getD k 0 = c at *
        by_cases q1 : c < 48
        · go_wp2
          go_ret2
          exact ⟨.inr ⟨unhide HN (fun h => absurd h.1 (by omega)), rfl⟩, rfl⟩
        · by_cases q2 : 57 < c
          · go_wp2
            go_ret2
            exact ⟨.inr ⟨unhide HN (fun h => absurd h.2 (by omega)), rfl⟩, rfl⟩
          · go_wp2
            go_round
            case rel => exact ⟨k + 1, by omega, by go_num, unhide HY ⟨by omega, by omega⟩⟩
            case measure => simp [intOf]; omega
      · have he : k = l.length := by omega
        subst he
        have hc0 : ∀ h, (T[0]'h).toNat = l.getD 0 0 := fun h => unhide HT 0 h
        by_cases hz : l.getD 0 0 = 48
        · rw [hz] at hc0
          by_cases q : 1 < l.length
          · first
              | (exfalso; omega)
              | (have HN : Hid (¬ Larder.Plain l) := hide (fun h => h.2.1 ⟨hz, by omega⟩)
                 clear hz
                 go_wp2
                 go_ret2
                 exact ⟨.inr ⟨unhide HN, rfl⟩, rfl⟩)
          · first
              | (exfalso; omega)
              | (have HN : Hid (Larder.Plain l) := hide ⟨by omega, fun h => q (by omega), fun j hj => unhide HP j (by omega)⟩
                 clear hz
                 go_wp2
                 go_ret2
                 exact ⟨.inl ⟨unhide HN, rfl⟩, rfl⟩)
        · have HN : Hid (Larder.Plain l) := hide ⟨by omega, fun h => hz h.1, fun j hj => unhide HP j (by omega)⟩
          have h25 := unhide HS 0 (by omega)
          generalize l.getD 0 0 = c0 at *
          go_wp2
          go_ret2
          exact ⟨.inl ⟨unhide HN, rfl⟩, rfl⟩
end Go.Proofs.YtidfbelckdlbhabGreat
namespace Go.Proofs.YtidfbelckdlbhabGreat
open Go.ChangeShapes Go.WideShapes Go.ChangeAt Go.RowKit
set_option linter.unusedVariables false
theorem digits_plain (a : Option Addr) (cap : Nat) (w : World) (l : List Nat) (hl : l.length ≤ 140737488355328) (hB : Bytes w a l) (hp : Larder.Plain l) :
    Calls Tryz.prog 102 #[.slice a l.length cap] w fun e w' => e = .returned (.tuple #[.string (str l), .bool true]) ∧ w' = w := by
  have hd := hp.2.2 0 hp.1
  refine (digits_whole a cap w l hl hp.2.2.small hB (fun h => by have := hd.1; omega)).mono ?_
  rintro e w' ⟨h | h, rfl⟩
  · exact ⟨h.2, rfl⟩
  · exact absurd hp h.1

/-- digits, of no spelling -/
theorem digits_none (a : Option Addr) (cap : Nat) (w : World) (l : List Nat) (hl : l.length ≤ 140737488355328) (h256 : Small l) (hB : Bytes w a l) (hp : ¬ Larder.Plain (bare l)) :
    Calls Tryz.prog 102 #[.slice a l.length cap] w fun e w' => e = .returned (.tuple #[.string ⟨#[]⟩, .bool false]) ∧ w' = w := by
  unfold bare at hp
  by_cases hc : 1 < l.length ∧ l.getD 0 0 = 45 ∧ l.getD 1 0 ≠ 48
  · rw [if_pos hc] at hp
    refine (digits_cut a cap w l hl h256 hB hc.1 hc.2.1 hc.2.2).mono ?_
    rintro e w' ⟨h | h, rfl⟩
    · exact absurd h.1 hp
    · exact ⟨h.2, rfl⟩
  · rw [if_neg hc] at hp
    refine (digits_whole a cap w l hl h256 hB hc).mono ?_
    rintro e w' ⟨h | h, rfl⟩
    · exact absurd h.1 hp
    · exact ⟨h.2, rfl⟩
/-- digits, of a spelling -/
theorem digits_some (a : Option Addr) (cap : Nat) (w : World) (l : List Nat) (hl : l.length ≤ 140737488355328) (h256 : Small l) (hB : Bytes w a l) (hp : Larder.Plain (bare l)) :
    Calls Tryz.prog 102 #[.slice a l.length cap] w fun e w' => e = .returned (.tuple #[.string (str (bare l)), .bool true]) ∧ w' = w := by
  unfold bare at hp ⊢
  by_cases hc : 1 < l.length ∧ l.getD 0 0 = 45 ∧ l.getD 1 0 ≠ 48
  · rw [if_pos hc] at hp ⊢
    refine (digits_cut a cap w l hl h256 hB hc.1 hc.2.1 hc.2.2).mono ?_
    rintro e w' ⟨h | h, rfl⟩
    · exact ⟨h.2, rfl⟩
    · exact absurd hp h.1
  · rw [if_neg hc] at hp ⊢
    refine (digits_whole a cap w l hl h256 hB hc).mono ?_
    rintro e w' ⟨h | h, rfl⟩
    · exact ⟨h.2, rfl⟩
    · exact absurd hp h.1

theorem not_plain_sign (l : List Nat) (h : l.getD 0 0 = 45) : ¬ Larder.Plain l := fun hp => by
  have := (hp.2.2 0 hp.1).1
  omega

theorem bytes_at {w : World} {a : Option Addr} {l : List Nat} (hB : Bytes w a l) (h : 0 < l.length) : ∃ b off, a = some ⟨b, off, none⟩ := by
  rcases hB with rfl | ⟨b, off, e, _⟩
  · simp at h
  · exact ⟨b, off, e⟩

end Go.Proofs.YtidfbelckdlbhabGreat
