/- The document's Uint. -/
import Derived.Test.YtochdajeocganaaRDigits
import Derived.Test.YtochdajeocganaaNumber
namespace Go.Proofs.Ytochdajeocganaa
open Go.ChangeShapes Go.WideShapes Go.ChangeAt Go.RowKit
set_option linter.unusedVariables false
def mostU : List Nat := [49, 56, 52, 52, 54, 55, 52, 52, 48, 55, 51, 55, 48, 57, 53, 53, 49, 54, 49, 53]
theorem mostU_str : str mostU = ⟨#[49, 56, 52, 52, 54, 55, 52, 52, 48, 55, 51, 55, 48, 57, 53, 53, 49, 54, 49, 53]⟩ := by decide
theorem mostU_num : Larder.numOf mostU = 18446744073709551615 := by decide
theorem mostU_digs : Larder.Digs mostU := by unfold Larder.Digs Larder.isDigit; decide

theorem digits_plain (a : Option Addr) (cap : Nat) (w : World) (l : List Nat) (hl : l.length ≤ 140737488355328) (hB : Bytes w a l) (hp : Larder.Plain l) :
    Calls Try.prog 46 #[.slice a l.length cap] w fun e w' => e = .returned (.tuple #[.string (str l), .bool true]) ∧ w' = w := by
  have hd := hp.2.2 0 hp.1
  refine (digits_whole a cap w l hl hp.2.2.small hB (fun h => by have := hd.1; omega)).mono ?_
  rintro e w' ⟨h | h, rfl⟩
  · exact ⟨h.2, rfl⟩
  · exact absurd hp h.1

theorem ruint_mid (b off : Nat) (cap : Nat) (w : World) (l : List Nat) (hl : l.length ≤ 140737488355328) (hB : Bytes w (some ⟨b, off, none⟩) l) (hp : Larder.Plain l) (h20 : l.length = 20) (hn : Larder.numOf l < 18446744073709551616) :
    Calls Try.prog 38 #[.slice (some ⟨b, off, none⟩) l.length cap] w fun e w' => e = .returned (.tuple #[.int .u64 (Larder.numOf l : Nat), .int .i64 0]) ∧ w' = w := by
  have H1 := hide (digits_plain (some ⟨b, off, none⟩) cap w l (by omega) hB hp)
  have hst := str_size l
  have HT := hide (fun k h => str_get l hp.2.2.small k h)
  have HD := hide hp.2.2
  have HL := hide (fun k h => Larder.numK_le l k h)
  have HE : Hid (Larder.numK l l.length = Larder.numOf l) := hide rfl
  have hpos := hp.1
  have hc0 : w.cell? ⟨b, off, none⟩ = some (.int .u8 (l.getD 0 0 : Nat)) := by
    rcases hB with rfl | ⟨b', off', e, hb, hc⟩
    · simp at hpos
    · cases e; exact hc 0 hpos
  have hd0 := hp.2.2 0 hpos
  unfold Larder.isDigit at hd0
  have e45 : (((l.getD 0 0 : Nat) : Int) == 45) = false := by rw [beq_eq_false_iff_ne]; omega
  have hmore := str_more l mostU hp.2.2 mostU_digs h20
  rw [mostU_str, mostU_num, decide_eq_false (by omega)] at hmore
  clear hB hp
  generalize str l = T at *
  generalize l.getD 0 0 = c0 at hc0 hd0 e45
  have HD' : Hid (∀ k, k < 20 → Larder.isDigit (l.getD k 0)) := hide (fun k h => unhide HD k (by omega))
  have HL' : Hid (∀ k, k ≤ 20 → Larder.numK l k ≤ Larder.numOf l) := hide (fun k h => unhide HL k (by omega))
  clear HD HL
  have HD := HD'
  have HL := HL'
  clear HD' HL'
  rw [h20] at H1 hst HE ⊢
  clear hl h20 hpos
  generalize Larder.numOf l = N at *
  have hus : (⟨#[49, 56, 52, 52, 54, 55, 52, 52, 48, 55, 51, 55, 48, 57, 53, 53, 49, 54, 49, 53]⟩ : ByteArray).size = 20 := rfl
  go_enter Try.func38, Try.ntmps38
  generalize (⟨#[49, 56, 52, 52, 54, 55, 52, 52, 48, 55, 51, 55, 48, 57, 53, 53, 49, 54, 49, 53]⟩ : ByteArray) = U at *
  go_wp2_with fail
  refine (unhide H1).mono ?_
  rintro e w' ⟨rfl, h⟩; obtain rfl := h.symm
  go_wp2
  go_loop [7, 8] (fun r i => ∃ k : Nat, k ≤ 20 ∧ i = .int .i64 k ∧ r = .int .u64 (Larder.numK l k : Nat)) (fun _ i => 20 - (intOf i).toNat)
  case atStart => exact ⟨0, Nat.zero_le _, rfl, rfl⟩
  case round =>
    obtain ⟨k, hk, rfl, rfl⟩ := hrel
    by_cases hlt : k < 20
    · have hcx : ∀ h, (T[k]'h).toNat = l.getD k 0 := fun h => unhide HT k h
      have hdd := unhide HD k (by omega)
      have h1 := hdd.1
      have h2 := hdd.2
      have hs := Larder.numK_succ l k
      have hle := unhide HL (k + 1) (by omega)
      rw [hs] at hle
      clear hdd
      generalize l.getD k 0 = c at *
      generalize Larder.numK l k = n at *
      obtain ⟨d, rfl⟩ := Nat.exists_eq_add_of_le h1
      have hd9 : d ≤ 9 := by omega
      have e48 : (((48 + d : Nat) : Int)) - 48 = (d : Int) := by omega
      go_wp2
      go_round
      case rel => exact ⟨k + 1, by omega, by go_num, by rw [hs]; go_num⟩
      case measure => simp [intOf]; omega
    · have he : k = 20 := by omega
      subst he
      rw [unhide HE]
      go_wp2
      go_ret2
      exact ⟨rfl, rfl⟩

theorem ruint_over (b off : Nat) (cap : Nat) (w : World) (l : List Nat) (hl : l.length ≤ 140737488355328) (hB : Bytes w (some ⟨b, off, none⟩) l) (hp : Larder.Plain l) (h20 : l.length = 20) (hn : ¬ Larder.numOf l < 18446744073709551616) :
    Calls Try.prog 38 #[.slice (some ⟨b, off, none⟩) l.length cap] w fun e w' => e = .returned (.tuple #[.int .u64 0, .int .i64 12]) ∧ w' = w := by
  have H1 := hide (digits_plain (some ⟨b, off, none⟩) cap w l (by omega) hB hp)
  have hst := str_size l
  have HT := hide (fun k h => str_get l hp.2.2.small k h)
  have HD := hide hp.2.2
  have HL := hide (fun k h => Larder.numK_le l k h)
  have HE : Hid (Larder.numK l l.length = Larder.numOf l) := hide rfl
  have hpos := hp.1
  have hc0 : w.cell? ⟨b, off, none⟩ = some (.int .u8 (l.getD 0 0 : Nat)) := by
    rcases hB with rfl | ⟨b', off', e, hb, hc⟩
    · simp at hpos
    · cases e; exact hc 0 hpos
  have hd0 := hp.2.2 0 hpos
  unfold Larder.isDigit at hd0
  have e45 : (((l.getD 0 0 : Nat) : Int) == 45) = false := by rw [beq_eq_false_iff_ne]; omega
  have hmore := str_more l mostU hp.2.2 mostU_digs h20
  rw [mostU_str, mostU_num, decide_eq_true (by omega)] at hmore
  clear hB hp
  generalize str l = T at *
  generalize l.getD 0 0 = c0 at hc0 hd0 e45
  rw [h20] at H1 hst ⊢
  clear hl h20
  clear HE HL HD HT hn hpos
  have hus : (⟨#[49, 56, 52, 52, 54, 55, 52, 52, 48, 55, 51, 55, 48, 57, 53, 53, 49, 54, 49, 53]⟩ : ByteArray).size = 20 := rfl
  go_enter Try.func38, Try.ntmps38
  generalize (⟨#[49, 56, 52, 52, 54, 55, 52, 52, 48, 55, 51, 55, 48, 57, 53, 53, 49, 54, 49, 53]⟩ : ByteArray) = U at *
  go_wp2_with fail
  refine (unhide H1).mono ?_
  rintro e w' ⟨rfl, h⟩; obtain rfl := h.symm
  go_wp2
  go_ret2
  exact ⟨rfl, rfl⟩

theorem ruint_long (b off : Nat) (cap : Nat) (w : World) (l : List Nat) (hl : l.length ≤ 140737488355328) (hB : Bytes w (some ⟨b, off, none⟩) l) (hp : Larder.Plain l) (h20 : 20 < l.length) :
    Calls Try.prog 38 #[.slice (some ⟨b, off, none⟩) l.length cap] w fun e w' => e = .returned (.tuple #[.int .u64 0, .int .i64 12]) ∧ w' = w := by
  have H1 := hide (digits_plain (some ⟨b, off, none⟩) cap w l (by omega) hB hp)
  have hst := str_size l
  have HT := hide (fun k h => str_get l hp.2.2.small k h)
  have HD := hide hp.2.2
  have HL := hide (fun k h => Larder.numK_le l k h)
  have HE : Hid (Larder.numK l l.length = Larder.numOf l) := hide rfl
  have hpos := hp.1
  have hc0 : w.cell? ⟨b, off, none⟩ = some (.int .u8 (l.getD 0 0 : Nat)) := by
    rcases hB with rfl | ⟨b', off', e, hb, hc⟩
    · simp at hpos
    · cases e; exact hc 0 hpos
  have hd0 := hp.2.2 0 hpos
  unfold Larder.isDigit at hd0
  have e45 : (((l.getD 0 0 : Nat) : Int) == 45) = false := by rw [beq_eq_false_iff_ne]; omega
  clear hB hp HE HL HD HT
  generalize str l = T at *
  generalize l.getD 0 0 = c0 at hc0 hd0 e45
  have e20 : decide (20 < (l.length : Int)) = true := by simp; omega
  have hus : (⟨#[49, 56, 52, 52, 54, 55, 52, 52, 48, 55, 51, 55, 48, 57, 53, 53, 49, 54, 49, 53]⟩ : ByteArray).size = 20 := rfl
  go_enter Try.func38, Try.ntmps38
  generalize (⟨#[49, 56, 52, 52, 54, 55, 52, 52, 48, 55, 51, 55, 48, 57, 53, 53, 49, 54, 49, 53]⟩ : ByteArray) = U at *
  go_wp2_with fail
  refine (unhide H1).mono ?_
  rintro e w' ⟨rfl, h⟩; obtain rfl := h.symm
  go_wp2
  go_ret2
  exact ⟨rfl, rfl⟩

theorem ruint_short (b off : Nat) (cap : Nat) (w : World) (l : List Nat) (hl : l.length ≤ 140737488355328) (hB : Bytes w (some ⟨b, off, none⟩) l) (hp : Larder.Plain l) (h20 : l.length < 20) (hn : Larder.numOf l < 18446744073709551616) :
    Calls Try.prog 38 #[.slice (some ⟨b, off, none⟩) l.length cap] w fun e w' => e = .returned (.tuple #[.int .u64 (Larder.numOf l : Nat), .int .i64 0]) ∧ w' = w := by
  have H1 := hide (digits_plain (some ⟨b, off, none⟩) cap w l (by omega) hB hp)
  have hst := str_size l
  have HT := hide (fun k h => str_get l hp.2.2.small k h)
  have HD := hide hp.2.2
  have HL := hide (fun k h => Larder.numK_le l k h)
  have HE : Hid (Larder.numK l l.length = Larder.numOf l) := hide rfl
  have hpos := hp.1
  have hc0 : w.cell? ⟨b, off, none⟩ = some (.int .u8 (l.getD 0 0 : Nat)) := by
    rcases hB with rfl | ⟨b', off', e, hb, hc⟩
    · simp at hpos
    · cases e; exact hc 0 hpos
  have hd0 := hp.2.2 0 hpos
  unfold Larder.isDigit at hd0
  have e45 : (((l.getD 0 0 : Nat) : Int) == 45) = false := by rw [beq_eq_false_iff_ne]; omega
  clear hB hp
  generalize str l = T at *
  generalize l.getD 0 0 = c0 at hc0 hd0 e45
  generalize Larder.numOf l = N at *
  have e20 : decide (20 < (l.length : Int)) = false := by simp; omega
  have e21 : ((l.length : Int) == 20) = false := by rw [beq_eq_false_iff_ne]; omega
  have hus : (⟨#[49, 56, 52, 52, 54, 55, 52, 52, 48, 55, 51, 55, 48, 57, 53, 53, 49, 54, 49, 53]⟩ : ByteArray).size = 20 := rfl
  go_enter Try.func38, Try.ntmps38
  generalize (⟨#[49, 56, 52, 52, 54, 55, 52, 52, 48, 55, 51, 55, 48, 57, 53, 53, 49, 54, 49, 53]⟩ : ByteArray) = U at *
  go_wp2_with fail
  refine (unhide H1).mono ?_
  rintro e w' ⟨rfl, h⟩; obtain rfl := h.symm
  go_wp2
  go_loop [7, 8] (fun r i => ∃ k : Nat, k ≤ l.length ∧ i = .int .i64 k ∧ r = .int .u64 (Larder.numK l k : Nat)) (fun _ i => l.length - (intOf i).toNat)
  case atStart => exact ⟨0, Nat.zero_le _, rfl, rfl⟩
  case round =>
    obtain ⟨k, hk, rfl, rfl⟩ := hrel
    by_cases hlt : k < l.length
    · have hcx : ∀ h, (T[k]'h).toNat = l.getD k 0 := fun h => unhide HT k h
      have hdd := unhide HD k (by omega)
      have h1 := hdd.1
      have h2 := hdd.2
      have hs := Larder.numK_succ l k
      have hle := unhide HL (k + 1) (by omega)
      rw [hs] at hle
      clear hdd
      generalize l.getD k 0 = c at *
      generalize Larder.numK l k = n at *
      obtain ⟨d, rfl⟩ := Nat.exists_eq_add_of_le h1
      have hd9 : d ≤ 9 := by omega
      have e48 : (((48 + d : Nat) : Int)) - 48 = (d : Int) := by omega
      go_wp2
      go_round
      case rel => exact ⟨k + 1, by omega, by go_num, by rw [hs]; go_num⟩
      case measure => simp [intOf]; omega
    · have he : k = l.length := by omega
      subst he
      rw [unhide HE]
      go_wp2
      go_ret2
      exact ⟨rfl, rfl⟩

/-- digits, of no spelling -/
theorem digits_none (a : Option Addr) (cap : Nat) (w : World) (l : List Nat) (hl : l.length ≤ 140737488355328) (h256 : Small l) (hB : Bytes w a l) (hp : ¬ Larder.Plain (bare l)) :
    Calls Try.prog 46 #[.slice a l.length cap] w fun e w' => e = .returned (.tuple #[.string ⟨#[]⟩, .bool false]) ∧ w' = w := by
  unfold bare at hp
  by_cases hc : 1 < l.length ∧ l.getD 0 0 = 45 ∧ l.getD 1 0 ≠ 48
  · rw [if_pos hc] at hp
    refine (digits_cut a cap w l hl h256 hB hc.1 hc.2.1 hc.2.2).mono ?_
    rintro e w' ⟨h | h, rfl⟩
    · exact absurd h.1 hp
    · exact ⟨h.2, rfl⟩
  · rw [if_neg hc] at hp
    refine (digits_whole a cap w l hl h256 hB hc).mono ?_
    rintro e w' ⟨h | h, rfl⟩
    · exact absurd h.1 hp
    · exact ⟨h.2, rfl⟩
/-- digits, of a spelling -/
theorem digits_some (a : Option Addr) (cap : Nat) (w : World) (l : List Nat) (hl : l.length ≤ 140737488355328) (h256 : Small l) (hB : Bytes w a l) (hp : Larder.Plain (bare l)) :
    Calls Try.prog 46 #[.slice a l.length cap] w fun e w' => e = .returned (.tuple #[.string (str (bare l)), .bool true]) ∧ w' = w := by
  unfold bare at hp ⊢
  by_cases hc : 1 < l.length ∧ l.getD 0 0 = 45 ∧ l.getD 1 0 ≠ 48
  · rw [if_pos hc] at hp ⊢
    refine (digits_cut a cap w l hl h256 hB hc.1 hc.2.1 hc.2.2).mono ?_
    rintro e w' ⟨h | h, rfl⟩
    · exact ⟨h.2, rfl⟩
    · exact absurd hp h.1
  · rw [if_neg hc] at hp ⊢
    refine (digits_whole a cap w l hl h256 hB hc).mono ?_
    rintro e w' ⟨h | h, rfl⟩
    · exact ⟨h.2, rfl⟩
    · exact absurd hp h.1

theorem ruint_none (a : Option Addr) (cap : Nat) (w : World) (l : List Nat) (hl : l.length ≤ 140737488355328) (h256 : Small l) (hB : Bytes w a l) (hp : ¬ Larder.Plain (bare l)) :
    Calls Try.prog 38 #[.slice a l.length cap] w fun e w' => e = .returned (.tuple #[.int .u64 0, .int .i64 12]) ∧ w' = w := by
  have H1 := hide (digits_none a cap w l hl h256 hB hp)
  clear hB hp h256
  go_enter Try.func38, Try.ntmps38
  generalize (⟨#[49, 56, 52, 52, 54, 55, 52, 52, 48, 55, 51, 55, 48, 57, 53, 53, 49, 54, 49, 53]⟩ : ByteArray) = U at *
  go_wp2_with fail
  refine (unhide H1).mono ?_
  rintro e w' ⟨rfl, h⟩; obtain rfl := h.symm
  go_wp2
  go_ret2
  exact ⟨rfl, rfl⟩

theorem ruint_sign (b off : Nat) (cap : Nat) (w : World) (l : List Nat) (hl : l.length ≤ 140737488355328) (h256 : Small l) (hB : Bytes w (some ⟨b, off, none⟩) l) (hp : Larder.Plain (bare l)) (h45 : l.getD 0 0 = 45) :
    Calls Try.prog 38 #[.slice (some ⟨b, off, none⟩) l.length cap] w fun e w' => e = .returned (.tuple #[.int .u64 0, .int .i64 12]) ∧ w' = w := by
  have H1 := hide (digits_some _ cap w l hl h256 hB hp)
  have hpos : 0 < l.length := by
    cases l with
    | nil => simp at h45
    | cons _ _ => simp
  have hc0 : w.cell? ⟨b, off, none⟩ = some (.int .u8 45) := by
    rcases hB with rfl | ⟨b', off', e, hb, hc⟩
    · simp at hpos
    · cases e; have := hc 0 hpos; rw [h45] at this; exact this
  clear hB hp h256 h45
  generalize str (bare l) = T at *
  go_enter Try.func38, Try.ntmps38
  generalize (⟨#[49, 56, 52, 52, 54, 55, 52, 52, 48, 55, 51, 55, 48, 57, 53, 53, 49, 54, 49, 53]⟩ : ByteArray) = U at *
  go_wp2_with fail
  refine (unhide H1).mono ?_
  rintro e w' ⟨rfl, h⟩; obtain rfl := h.symm
  go_wp2
  go_ret2
  exact ⟨rfl, rfl⟩

theorem not_plain_sign (l : List Nat) (h : l.getD 0 0 = 45) : ¬ Larder.Plain l := fun hp => by
  have := (hp.2.2 0 hp.1).1
  omega

theorem bytes_at {w : World} {a : Option Addr} {l : List Nat} (hB : Bytes w a l) (h : 0 < l.length) : ∃ b off, a = some ⟨b, off, none⟩ := by
  rcases hB with rfl | ⟨b, off, e, _⟩
  · simp at h
  · exact ⟨b, off, e⟩

theorem ruint_any (a : Option Addr) (cap : Nat) (w : World) (l : List Nat) (hl : l.length ≤ 140737488355328) (h256 : Small l) (hB : Bytes w a l) :
    Calls Try.prog 38 #[.slice a l.length cap] w fun e w' => e = .returned (.tuple #[.int .u64 ((Larder.uintRes l).1 : Nat), .int .i64 ((Larder.uintRes l).2 : Nat)]) ∧ w' = w := by
  by_cases hp : Larder.Plain l
  · have hd := hp.2.2
    obtain ⟨b, off, rfl⟩ := bytes_at hB hp.1
    have h45 : l.getD 0 0 ≠ 45 := fun h => not_plain_sign l h hp
    classical
    rw [Larder.uintRes_def]
    rcases Nat.lt_trichotomy l.length 20 with h | h | h
    · have hn : Larder.numOf l < 18446744073709551616 := by
        have h1 := Larder.numK_lt l hd l.length (Nat.le_refl _)
        have h2 : 10 ^ l.length ≤ 10 ^ 19 := Nat.pow_le_pow_right (by decide) (by omega)
        have h3 : (10 : Nat) ^ 19 < 18446744073709551616 := by decide
        unfold Larder.numOf; omega
      rw [if_pos ⟨hp, hn⟩]
      exact ruint_short b off cap w l hl hB hp h hn
    · by_cases hn : Larder.numOf l < 18446744073709551616
      · rw [if_pos ⟨hp, hn⟩]
        exact ruint_mid b off cap w l hl hB hp h hn
      · rw [if_neg (fun h => hn h.2)]
        exact ruint_over b off cap w l hl hB hp h hn
    · have hn : ¬ Larder.numOf l < 18446744073709551616 := by
        have h0 : l.getD 0 0 ≠ 48 := fun h' => hp.2.1 ⟨h', by omega⟩
        have h1 := Larder.numK_ge l hd h0 (l.length - 1) (by omega)
        have h2 : 10 ^ 20 ≤ 10 ^ (l.length - 1) := Nat.pow_le_pow_right (by decide) (by omega)
        have h3 : (18446744073709551616 : Nat) ≤ 10 ^ 20 := by decide
        have h4 : l.length - 1 + 1 = l.length := by omega
        rw [h4] at h1
        unfold Larder.numOf; omega
      rw [if_neg (fun h => hn h.2)]
      exact ruint_long b off cap w l hl hB hp h
  · have e : Larder.uintRes l = (0, 12) := by classical rw [Larder.uintRes_def, if_neg (fun h => hp h.1)]
    rw [e]
    by_cases hb : Larder.Plain (bare l)
    · have h45 : l.getD 0 0 = 45 := by
        unfold bare at hb
        by_cases hc : 1 < l.length ∧ l.getD 0 0 = 45 ∧ l.getD 1 0 ≠ 48
        · exact hc.2.1
        · rw [if_neg hc] at hb; exact absurd hb hp
      have hpos : 0 < l.length := by
        cases l with
        | nil => simp at h45
        | cons _ _ => simp
      obtain ⟨b, off, rfl⟩ := bytes_at hB hpos
      exact ruint_sign b off cap w l hl h256 hB hb h45
    · exact ruint_none a cap w l hl h256 hB hb
end Go.Proofs.Ytochdajeocganaa
