/- The document's Int. -/
import Derived.Test.YtidfbelckdlbhabGreatRUint
namespace Go.Proofs.YtidfbelckdlbhabGreat
open Go.ChangeShapes Go.WideShapes Go.ChangeAt Go.RowKit
set_option linter.unusedVariables false
def most7 : List Nat := [57, 50, 50, 51, 51, 55, 50, 48, 51, 54, 56, 53, 52, 55, 55, 53, 56, 48, 55]
theorem most7_str : str most7 = ⟨#[57, 50, 50, 51, 51, 55, 50, 48, 51, 54, 56, 53, 52, 55, 55, 53, 56, 48, 55]⟩ := by decide
theorem most7_num : Larder.numOf most7 = 9223372036854775807 := by decide
theorem most7_digs : Larder.Digs most7 := by unfold Larder.Digs Larder.isDigit; decide
def most8 : List Nat := [57, 50, 50, 51, 51, 55, 50, 48, 51, 54, 56, 53, 52, 55, 55, 53, 56, 48, 56]
theorem most8_str : str most8 = ⟨#[57, 50, 50, 51, 51, 55, 50, 48, 51, 54, 56, 53, 52, 55, 55, 53, 56, 48, 56]⟩ := by decide
theorem most8_num : Larder.numOf most8 = 9223372036854775808 := by decide
theorem most8_digs : Larder.Digs most8 := by unfold Larder.Digs Larder.isDigit; decide

theorem rint_pos_mid (b off len : Nat) (cap : Nat) (w : World) (m : List Nat) (c0 : Nat) (hl : m.length ≤ 140737488355328) (hlen : 0 < len) (hlen2 : len ≤ 140737488355329) (hc0 : w.cell? ⟨b, off, none⟩ = some (.int .u8 (c0 : Nat))) (hc25 : c0 < 256) (h45 : c0 ≠ 45) (hp : Larder.Plain m) (h19 : m.length = 19) (hn : Larder.numOf m < 9223372036854775808)
    (hdig : Calls Tryz.prog 102 #[.slice (some ⟨b, off, none⟩) len cap] w fun e w' => e = .returned (.tuple #[.string (str m), .bool true]) ∧ w' = w) :
    Calls Tryz.prog 80 #[.slice (some ⟨b, off, none⟩) len cap] w fun e w' => e = .returned (.tuple #[.int .i64 (Larder.numOf m : Nat), .int .i64 0]) ∧ w' = w := by
  have H1 := hide hdig
  clear hdig
  have hst := str_size m
  have HT := hide (fun k h => str_get m hp.2.2.small k h)
  have HD := hide (fun k h => hp.2.2 k h)
  have HL := hide (fun k h => Larder.numK_le m k h)
  have HE : Hid (Larder.numK m m.length = Larder.numOf m) := hide rfl
  have e45 : ((c0 : Int) == 45) = false := by rw [beq_eq_false_iff_ne]; omega
  have hmore := str_more m most7 hp.2.2 most7_digs h19
  rw [most7_str, most7_num, decide_eq_false (by omega)] at hmore
  clear hp
  generalize str m = T at *
  have HD' : Hid (∀ k, k < 19 → Larder.isDigit (m.getD k 0)) := hide (fun k h => unhide HD k (by omega))
  have HL' : Hid (∀ k, k ≤ 19 → Larder.numK m k ≤ Larder.numOf m) := hide (fun k h => unhide HL k (by omega))
  clear HD HL
  have HD := HD'
  have HL := HL'
  clear HD' HL'
  rw [h19] at hst HE
  clear hl h19
  generalize Larder.numOf m = N at *
  have hu7 : (⟨#[57, 50, 50, 51, 51, 55, 50, 48, 51, 54, 56, 53, 52, 55, 55, 53, 56, 48, 55]⟩ : ByteArray).size = 19 := rfl
  have hu8 : (⟨#[57, 50, 50, 51, 51, 55, 50, 48, 51, 54, 56, 53, 52, 55, 55, 53, 56, 48, 56]⟩ : ByteArray).size = 19 := rfl
  go_enter Tryz.func80, Tryz.ntmps80
  generalize (⟨#[57, 50, 50, 51, 51, 55, 50, 48, 51, 54, 56, 53, 52, 55, 55, 53, 56, 48, 55]⟩ : ByteArray) = U7 at *
  generalize (⟨#[57, 50, 50, 51, 51, 55, 50, 48, 51, 54, 56, 53, 52, 55, 55, 53, 56, 48, 56]⟩ : ByteArray) = U8 at *
  go_wp2_with fail
  refine (unhide H1).mono ?_
  rintro e w' ⟨rfl, h⟩; obtain rfl := h.symm
  go_wp2
  go_loop [7, 8] (fun r i => ∃ k : Nat, k ≤ 19 ∧ i = .int .i64 k ∧ r = .int .i64 (Larder.numK m k : Nat)) (fun _ i => 19 - (intOf i).toNat)
  case atStart => exact ⟨0, Nat.zero_le _, rfl, rfl⟩
  case round =>
    obtain ⟨k, hk, rfl, rfl⟩ := hrel
    by_cases hlt : k < 19
    · have hcx : ∀ h, (T[k]'h).toNat = m.getD k 0 := fun h => unhide HT k h
      have hdd := unhide HD k (by omega)
      have h1 := hdd.1
      have h2 := hdd.2
      have hs := Larder.numK_succ m k
      have hle := unhide HL (k + 1) (by omega)
      rw [hs] at hle
      clear hdd
      generalize m.getD k 0 = c at *
      generalize Larder.numK m k = n at *
      obtain ⟨d, rfl⟩ := Nat.exists_eq_add_of_le h1
      have hd9 : d ≤ 9 := by omega
      have e48 : (((48 + d : Nat) : Int)) - 48 = (d : Int) := by omega
      go_wp2
      go_round
      case rel => exact ⟨k + 1, by omega, by go_num, by rw [hs]; go_num⟩
      case measure => simp [intOf]; omega
    · have he : k = 19 := by omega
      subst he
      rw [unhide HE]
      go_wp2
      go_ret2
      exact ⟨rfl, rfl⟩

theorem rint_pos_over (b off len : Nat) (cap : Nat) (w : World) (m : List Nat) (c0 : Nat) (hl : m.length ≤ 140737488355328) (hlen : 0 < len) (hlen2 : len ≤ 140737488355329) (hc0 : w.cell? ⟨b, off, none⟩ = some (.int .u8 (c0 : Nat))) (hc25 : c0 < 256) (h45 : c0 ≠ 45) (hp : Larder.Plain m) (h19 : m.length = 19) (hn : ¬ Larder.numOf m < 9223372036854775808)
    (hdig : Calls Tryz.prog 102 #[.slice (some ⟨b, off, none⟩) len cap] w fun e w' => e = .returned (.tuple #[.string (str m), .bool true]) ∧ w' = w) :
    Calls Tryz.prog 80 #[.slice (some ⟨b, off, none⟩) len cap] w fun e w' => e = .returned (.tuple #[.int .i64 0, .int .i64 13]) ∧ w' = w := by
  have H1 := hide hdig
  clear hdig
  have hst := str_size m
  have HT := hide (fun k h => str_get m hp.2.2.small k h)
  have HD := hide (fun k h => hp.2.2 k h)
  have HL := hide (fun k h => Larder.numK_le m k h)
  have HE : Hid (Larder.numK m m.length = Larder.numOf m) := hide rfl
  have e45 : ((c0 : Int) == 45) = false := by rw [beq_eq_false_iff_ne]; omega
  have hmore := str_more m most7 hp.2.2 most7_digs h19
  rw [most7_str, most7_num, decide_eq_true (by omega)] at hmore
  clear hp
  generalize str m = T at *
  have HD' : Hid (∀ k, k < 19 → Larder.isDigit (m.getD k 0)) := hide (fun k h => unhide HD k (by omega))
  have HL' : Hid (∀ k, k ≤ 19 → Larder.numK m k ≤ Larder.numOf m) := hide (fun k h => unhide HL k (by omega))
  clear HD HL
  have HD := HD'
  have HL := HL'
  clear HD' HL'
  rw [h19] at hst HE
  clear hl h19
  have hu7 : (⟨#[57, 50, 50, 51, 51, 55, 50, 48, 51, 54, 56, 53, 52, 55, 55, 53, 56, 48, 55]⟩ : ByteArray).size = 19 := rfl
  have hu8 : (⟨#[57, 50, 50, 51, 51, 55, 50, 48, 51, 54, 56, 53, 52, 55, 55, 53, 56, 48, 56]⟩ : ByteArray).size = 19 := rfl
  go_enter Tryz.func80, Tryz.ntmps80
  generalize (⟨#[57, 50, 50, 51, 51, 55, 50, 48, 51, 54, 56, 53, 52, 55, 55, 53, 56, 48, 55]⟩ : ByteArray) = U7 at *
  generalize (⟨#[57, 50, 50, 51, 51, 55, 50, 48, 51, 54, 56, 53, 52, 55, 55, 53, 56, 48, 56]⟩ : ByteArray) = U8 at *
  go_wp2_with fail
  refine (unhide H1).mono ?_
  rintro e w' ⟨rfl, h⟩; obtain rfl := h.symm
  go_wp2
  go_ret2
  exact ⟨rfl, rfl⟩

theorem rint_pos_long (b off len : Nat) (cap : Nat) (w : World) (m : List Nat) (c0 : Nat) (hl : m.length ≤ 140737488355328) (hlen : 0 < len) (hlen2 : len ≤ 140737488355329) (hc0 : w.cell? ⟨b, off, none⟩ = some (.int .u8 (c0 : Nat))) (hc25 : c0 < 256) (h45 : c0 ≠ 45) (hp : Larder.Plain m) (h19 : 19 < m.length)
    (hdig : Calls Tryz.prog 102 #[.slice (some ⟨b, off, none⟩) len cap] w fun e w' => e = .returned (.tuple #[.string (str m), .bool true]) ∧ w' = w) :
    Calls Tryz.prog 80 #[.slice (some ⟨b, off, none⟩) len cap] w fun e w' => e = .returned (.tuple #[.int .i64 0, .int .i64 13]) ∧ w' = w := by
  have H1 := hide hdig
  clear hdig
  have hst := str_size m
  have HT := hide (fun k h => str_get m hp.2.2.small k h)
  have HD := hide (fun k h => hp.2.2 k h)
  have HL := hide (fun k h => Larder.numK_le m k h)
  have HE : Hid (Larder.numK m m.length = Larder.numOf m) := hide rfl
  have e45 : ((c0 : Int) == 45) = false := by rw [beq_eq_false_iff_ne]; omega
  clear hp
  generalize str m = T at *
  have e19 : decide (19 < (m.length : Int)) = true := by simp; omega
  have hu7 : (⟨#[57, 50, 50, 51, 51, 55, 50, 48, 51, 54, 56, 53, 52, 55, 55, 53, 56, 48, 55]⟩ : ByteArray).size = 19 := rfl
  have hu8 : (⟨#[57, 50, 50, 51, 51, 55, 50, 48, 51, 54, 56, 53, 52, 55, 55, 53, 56, 48, 56]⟩ : ByteArray).size = 19 := rfl
  go_enter Tryz.func80, Tryz.ntmps80
  generalize (⟨#[57, 50, 50, 51, 51, 55, 50, 48, 51, 54, 56, 53, 52, 55, 55, 53, 56, 48, 55]⟩ : ByteArray) = U7 at *
  generalize (⟨#[57, 50, 50, 51, 51, 55, 50, 48, 51, 54, 56, 53, 52, 55, 55, 53, 56, 48, 56]⟩ : ByteArray) = U8 at *
  go_wp2_with fail
  refine (unhide H1).mono ?_
  rintro e w' ⟨rfl, h⟩; obtain rfl := h.symm
  go_wp2
  go_ret2
  exact ⟨rfl, rfl⟩

theorem rint_pos_short (b off len : Nat) (cap : Nat) (w : World) (m : List Nat) (c0 : Nat) (hl : m.length ≤ 140737488355328) (hlen : 0 < len) (hlen2 : len ≤ 140737488355329) (hc0 : w.cell? ⟨b, off, none⟩ = some (.int .u8 (c0 : Nat))) (hc25 : c0 < 256) (h45 : c0 ≠ 45) (hp : Larder.Plain m) (h19 : m.length < 19) (hn : Larder.numOf m < 9223372036854775808)
    (hdig : Calls Tryz.prog 102 #[.slice (some ⟨b, off, none⟩) len cap] w fun e w' => e = .returned (.tuple #[.string (str m), .bool true]) ∧ w' = w) :
    Calls Tryz.prog 80 #[.slice (some ⟨b, off, none⟩) len cap] w fun e w' => e = .returned (.tuple #[.int .i64 (Larder.numOf m : Nat), .int .i64 0]) ∧ w' = w := by
  have H1 := hide hdig
  clear hdig
  have hst := str_size m
  have HT := hide (fun k h => str_get m hp.2.2.small k h)
  have HD := hide (fun k h => hp.2.2 k h)
  have HL := hide (fun k h => Larder.numK_le m k h)
  have HE : Hid (Larder.numK m m.length = Larder.numOf m) := hide rfl
  have e45 : ((c0 : Int) == 45) = false := by rw [beq_eq_false_iff_ne]; omega
  clear hp
  generalize str m = T at *
  have e19 : decide (19 < (m.length : Int)) = false := by simp; omega
  have e20 : ((m.length : Int) == 19) = false := by rw [beq_eq_false_iff_ne]; omega
  generalize Larder.numOf m = N at *
  have hu7 : (⟨#[57, 50, 50, 51, 51, 55, 50, 48, 51, 54, 56, 53, 52, 55, 55, 53, 56, 48, 55]⟩ : ByteArray).size = 19 := rfl
  have hu8 : (⟨#[57, 50, 50, 51, 51, 55, 50, 48, 51, 54, 56, 53, 52, 55, 55, 53, 56, 48, 56]⟩ : ByteArray).size = 19 := rfl
  go_enter Tryz.func80, Tryz.ntmps80
  generalize (⟨#[57, 50, 50, 51, 51, 55, 50, 48, 51, 54, 56, 53, 52, 55, 55, 53, 56, 48, 55]⟩ : ByteArray) = U7 at *
  generalize (⟨#[57, 50, 50, 51, 51, 55, 50, 48, 51, 54, 56, 53, 52, 55, 55, 53, 56, 48, 56]⟩ : ByteArray) = U8 at *
  go_wp2_with fail
  refine (unhide H1).mono ?_
  rintro e w' ⟨rfl, h⟩; obtain rfl := h.symm
  go_wp2
  go_loop [7, 8] (fun r i => ∃ k : Nat, k ≤ m.length ∧ i = .int .i64 k ∧ r = .int .i64 (Larder.numK m k : Nat)) (fun _ i => m.length - (intOf i).toNat)
  case atStart => exact ⟨0, Nat.zero_le _, rfl, rfl⟩
  case round =>
    obtain ⟨k, hk, rfl, rfl⟩ := hrel
    by_cases hlt : k < m.length
    · have hcx : ∀ h, (T[k]'h).toNat = m.getD k 0 := fun h => unhide HT k h
      have hdd := unhide HD k (by omega)
      have h1 := hdd.1
      have h2 := hdd.2
      have hs := Larder.numK_succ m k
      have hle := unhide HL (k + 1) (by omega)
      rw [hs] at hle
      clear hdd
      generalize m.getD k 0 = c at *
      generalize Larder.numK m k = n at *
      obtain ⟨d, rfl⟩ := Nat.exists_eq_add_of_le h1
      have hd9 : d ≤ 9 := by omega
      have e48 : (((48 + d : Nat) : Int)) - 48 = (d : Int) := by omega
      go_wp2
      go_round
      case rel => exact ⟨k + 1, by omega, by go_num, by rw [hs]; go_num⟩
      case measure => simp [intOf]; omega
    · have he : k = m.length := by omega
      subst he
      rw [unhide HE]
      go_wp2
      go_ret2
      exact ⟨rfl, rfl⟩

theorem rint_neg_mid (b off len : Nat) (cap : Nat) (w : World) (m : List Nat) (c0 : Nat) (hl : m.length ≤ 140737488355328) (hlen : 0 < len) (hlen2 : len ≤ 140737488355329) (hc0 : w.cell? ⟨b, off, none⟩ = some (.int .u8 (c0 : Nat))) (hc25 : c0 < 256) (h45 : c0 = 45) (hp : Larder.Plain m) (h19 : m.length = 19) (hn : Larder.numOf m ≤ 9223372036854775808)
    (hdig : Calls Tryz.prog 102 #[.slice (some ⟨b, off, none⟩) len cap] w fun e w' => e = .returned (.tuple #[.string (str m), .bool true]) ∧ w' = w) :
    Calls Tryz.prog 80 #[.slice (some ⟨b, off, none⟩) len cap] w fun e w' => e = .returned (.tuple #[.int .i64 (-(Larder.numOf m : Int)), .int .i64 0]) ∧ w' = w := by
  have H1 := hide hdig
  clear hdig
  have hst := str_size m
  have HT := hide (fun k h => str_get m hp.2.2.small k h)
  have HD := hide (fun k h => hp.2.2 k h)
  have HL := hide (fun k h => Larder.numK_le m k h)
  have HE : Hid (Larder.numK m m.length = Larder.numOf m) := hide rfl
  subst h45
  have hmore := str_more m most8 hp.2.2 most8_digs h19
  rw [most8_str, most8_num, decide_eq_false (by omega)] at hmore
  clear hp
  generalize str m = T at *
  have HD' : Hid (∀ k, k < 19 → Larder.isDigit (m.getD k 0)) := hide (fun k h => unhide HD k (by omega))
  have HL' : Hid (∀ k, k ≤ 19 → Larder.numK m k ≤ Larder.numOf m) := hide (fun k h => unhide HL k (by omega))
  clear HD HL
  have HD := HD'
  have HL := HL'
  clear HD' HL'
  rw [h19] at hst HE
  clear hl h19
  generalize Larder.numOf m = N at *
  have hu7 : (⟨#[57, 50, 50, 51, 51, 55, 50, 48, 51, 54, 56, 53, 52, 55, 55, 53, 56, 48, 55]⟩ : ByteArray).size = 19 := rfl
  have hu8 : (⟨#[57, 50, 50, 51, 51, 55, 50, 48, 51, 54, 56, 53, 52, 55, 55, 53, 56, 48, 56]⟩ : ByteArray).size = 19 := rfl
  go_enter Tryz.func80, Tryz.ntmps80
  generalize (⟨#[57, 50, 50, 51, 51, 55, 50, 48, 51, 54, 56, 53, 52, 55, 55, 53, 56, 48, 55]⟩ : ByteArray) = U7 at *
  generalize (⟨#[57, 50, 50, 51, 51, 55, 50, 48, 51, 54, 56, 53, 52, 55, 55, 53, 56, 48, 56]⟩ : ByteArray) = U8 at *
  go_wp2_with fail
  refine (unhide H1).mono ?_
  rintro e w' ⟨rfl, h⟩; obtain rfl := h.symm
  go_wp2
  go_loop [7, 8] (fun r i => ∃ k : Nat, k ≤ 19 ∧ i = .int .i64 k ∧ r = .int .i64 (-(Larder.numK m k : Int))) (fun _ i => 19 - (intOf i).toNat)
  case atStart => exact ⟨0, Nat.zero_le _, rfl, rfl⟩
  case round =>
    obtain ⟨k, hk, rfl, rfl⟩ := hrel
    by_cases hlt : k < 19
    · have hcx : ∀ h, (T[k]'h).toNat = m.getD k 0 := fun h => unhide HT k h
      have hdd := unhide HD k (by omega)
      have h1 := hdd.1
      have h2 := hdd.2
      have hs := Larder.numK_succ m k
      have hle := unhide HL (k + 1) (by omega)
      rw [hs] at hle
      clear hdd
      generalize m.getD k 0 = c at *
      generalize Larder.numK m k = n at *
      obtain ⟨d, rfl⟩ := Nat.exists_eq_add_of_le h1
      have hd9 : d ≤ 9 := by omega
      have e48 : (((48 + d : Nat) : Int)) - 48 = (d : Int) := by omega
      go_wp2
      go_round
      case rel => exact ⟨k + 1, by omega, by go_num, by rw [hs]; go_num⟩
      case measure => simp [intOf]; omega
    · have he : k = 19 := by omega
      subst he
      rw [unhide HE]
      go_wp2
      go_ret2
      exact ⟨rfl, rfl⟩

theorem rint_neg_over (b off len : Nat) (cap : Nat) (w : World) (m : List Nat) (c0 : Nat) (hl : m.length ≤ 140737488355328) (hlen : 0 < len) (hlen2 : len ≤ 140737488355329) (hc0 : w.cell? ⟨b, off, none⟩ = some (.int .u8 (c0 : Nat))) (hc25 : c0 < 256) (h45 : c0 = 45) (hp : Larder.Plain m) (h19 : m.length = 19) (hn : ¬ Larder.numOf m ≤ 9223372036854775808)
    (hdig : Calls Tryz.prog 102 #[.slice (some ⟨b, off, none⟩) len cap] w fun e w' => e = .returned (.tuple #[.string (str m), .bool true]) ∧ w' = w) :
    Calls Tryz.prog 80 #[.slice (some ⟨b, off, none⟩) len cap] w fun e w' => e = .returned (.tuple #[.int .i64 0, .int .i64 13]) ∧ w' = w := by
  have H1 := hide hdig
  clear hdig
  have hst := str_size m
  have HT := hide (fun k h => str_get m hp.2.2.small k h)
  have HD := hide (fun k h => hp.2.2 k h)
  have HL := hide (fun k h => Larder.numK_le m k h)
  have HE : Hid (Larder.numK m m.length = Larder.numOf m) := hide rfl
  subst h45
  have hmore := str_more m most8 hp.2.2 most8_digs h19
  rw [most8_str, most8_num, decide_eq_true (by omega)] at hmore
  clear hp
  generalize str m = T at *
  have HD' : Hid (∀ k, k < 19 → Larder.isDigit (m.getD k 0)) := hide (fun k h => unhide HD k (by omega))
  have HL' : Hid (∀ k, k ≤ 19 → Larder.numK m k ≤ Larder.numOf m) := hide (fun k h => unhide HL k (by omega))
  clear HD HL
  have HD := HD'
  have HL := HL'
  clear HD' HL'
  rw [h19] at hst HE
  clear hl h19
  have hu7 : (⟨#[57, 50, 50, 51, 51, 55, 50, 48, 51, 54, 56, 53, 52, 55, 55, 53, 56, 48, 55]⟩ : ByteArray).size = 19 := rfl
  have hu8 : (⟨#[57, 50, 50, 51, 51, 55, 50, 48, 51, 54, 56, 53, 52, 55, 55, 53, 56, 48, 56]⟩ : ByteArray).size = 19 := rfl
  go_enter Tryz.func80, Tryz.ntmps80
  generalize (⟨#[57, 50, 50, 51, 51, 55, 50, 48, 51, 54, 56, 53, 52, 55, 55, 53, 56, 48, 55]⟩ : ByteArray) = U7 at *
  generalize (⟨#[57, 50, 50, 51, 51, 55, 50, 48, 51, 54, 56, 53, 52, 55, 55, 53, 56, 48, 56]⟩ : ByteArray) = U8 at *
  go_wp2_with fail
  refine (unhide H1).mono ?_
  rintro e w' ⟨rfl, h⟩; obtain rfl := h.symm
  go_wp2
  go_ret2
  exact ⟨rfl, rfl⟩

theorem rint_neg_long (b off len : Nat) (cap : Nat) (w : World) (m : List Nat) (c0 : Nat) (hl : m.length ≤ 140737488355328) (hlen : 0 < len) (hlen2 : len ≤ 140737488355329) (hc0 : w.cell? ⟨b, off, none⟩ = some (.int .u8 (c0 : Nat))) (hc25 : c0 < 256) (h45 : c0 = 45) (hp : Larder.Plain m) (h19 : 19 < m.length)
    (hdig : Calls Tryz.prog 102 #[.slice (some ⟨b, off, none⟩) len cap] w fun e w' => e = .returned (.tuple #[.string (str m), .bool true]) ∧ w' = w) :
    Calls Tryz.prog 80 #[.slice (some ⟨b, off, none⟩) len cap] w fun e w' => e = .returned (.tuple #[.int .i64 0, .int .i64 13]) ∧ w' = w := by
  have H1 := hide hdig
  clear hdig
  have hst := str_size m
  have HT := hide (fun k h => str_get m hp.2.2.small k h)
  have HD := hide (fun k h => hp.2.2 k h)
  have HL := hide (fun k h => Larder.numK_le m k h)
  have HE : Hid (Larder.numK m m.length = Larder.numOf m) := hide rfl
  subst h45
  clear hp
  generalize str m = T at *
  have e19 : decide (19 < (m.length : Int)) = true := by simp; omega
  have hu7 : (⟨#[57, 50, 50, 51, 51, 55, 50, 48, 51, 54, 56, 53, 52, 55, 55, 53, 56, 48, 55]⟩ : ByteArray).size = 19 := rfl
  have hu8 : (⟨#[57, 50, 50, 51, 51, 55, 50, 48, 51, 54, 56, 53, 52, 55, 55, 53, 56, 48, 56]⟩ : ByteArray).size = 19 := rfl
  go_enter Tryz.func80, Tryz.ntmps80
  generalize (⟨#[57, 50, 50, 51, 51, 55, 50, 48, 51, 54, 56, 53, 52, 55, 55, 53, 56, 48, 55]⟩ : ByteArray) = U7 at *
  generalize (⟨#[57, 50, 50, 51, 51, 55, 50, 48, 51, 54, 56, 53, 52, 55, 55, 53, 56, 48, 56]⟩ : ByteArray) = U8 at *
  go_wp2_with fail
  refine (unhide H1).mono ?_
  rintro e w' ⟨rfl, h⟩; obtain rfl := h.symm
  go_wp2
  go_ret2
  exact ⟨rfl, rfl⟩

theorem rint_neg_short (b off len : Nat) (cap : Nat) (w : World) (m : List Nat) (c0 : Nat) (hl : m.length ≤ 140737488355328) (hlen : 0 < len) (hlen2 : len ≤ 140737488355329) (hc0 : w.cell? ⟨b, off, none⟩ = some (.int .u8 (c0 : Nat))) (hc25 : c0 < 256) (h45 : c0 = 45) (hp : Larder.Plain m) (h19 : m.length < 19) (hn : Larder.numOf m ≤ 9223372036854775808)
    (hdig : Calls Tryz.prog 102 #[.slice (some ⟨b, off, none⟩) len cap] w fun e w' => e = .returned (.tuple #[.string (str m), .bool true]) ∧ w' = w) :
    Calls Tryz.prog 80 #[.slice (some ⟨b, off, none⟩) len cap] w fun e w' => e = .returned (.tuple #[.int .i64 (-(Larder.numOf m : Int)), .int .i64 0]) ∧ w' = w := by
  have H1 := hide hdig
  clear hdig
  have hst := str_size m
  have HT := hide (fun k h => str_get m hp.2.2.small k h)
  have HD := hide (fun k h => hp.2.2 k h)
  have HL := hide (fun k h => Larder.numK_le m k h)
  have HE : Hid (Larder.numK m m.length = Larder.numOf m) := hide rfl
  subst h45
  clear hp
  generalize str m = T at *
  have e19 : decide (19 < (m.length : Int)) = false := by simp; omega
  have e20 : ((m.length : Int) == 19) = false := by rw [beq_eq_false_iff_ne]; omega
  generalize Larder.numOf m = N at *
  have hu7 : (⟨#[57, 50, 50, 51, 51, 55, 50, 48, 51, 54, 56, 53, 52, 55, 55, 53, 56, 48, 55]⟩ : ByteArray).size = 19 := rfl
  have hu8 : (⟨#[57, 50, 50, 51, 51, 55, 50, 48, 51, 54, 56, 53, 52, 55, 55, 53, 56, 48, 56]⟩ : ByteArray).size = 19 := rfl
  go_enter Tryz.func80, Tryz.ntmps80
  generalize (⟨#[57, 50, 50, 51, 51, 55, 50, 48, 51, 54, 56, 53, 52, 55, 55, 53, 56, 48, 55]⟩ : ByteArray) = U7 at *
  generalize (⟨#[57, 50, 50, 51, 51, 55, 50, 48, 51, 54, 56, 53, 52, 55, 55, 53, 56, 48, 56]⟩ : ByteArray) = U8 at *
  go_wp2_with fail
  refine (unhide H1).mono ?_
  rintro e w' ⟨rfl, h⟩; obtain rfl := h.symm
  go_wp2
  go_loop [7, 8] (fun r i => ∃ k : Nat, k ≤ m.length ∧ i = .int .i64 k ∧ r = .int .i64 (-(Larder.numK m k : Int))) (fun _ i => m.length - (intOf i).toNat)
  case atStart => exact ⟨0, Nat.zero_le _, rfl, rfl⟩
  case round =>
    obtain ⟨k, hk, rfl, rfl⟩ := hrel
    by_cases hlt : k < m.length
    · have hcx : ∀ h, (T[k]'h).toNat = m.getD k 0 := fun h => unhide HT k h
      have hdd := unhide HD k (by omega)
      have h1 := hdd.1
      have h2 := hdd.2
      have hs := Larder.numK_succ m k
      have hle := unhide HL (k + 1) (by omega)
      rw [hs] at hle
      clear hdd
      generalize m.getD k 0 = c at *
      generalize Larder.numK m k = n at *
      obtain ⟨d, rfl⟩ := Nat.exists_eq_add_of_le h1
      have hd9 : d ≤ 9 := by omega
      have e48 : (((48 + d : Nat) : Int)) - 48 = (d : Int) := by omega
      go_wp2
      go_round
      case rel => exact ⟨k + 1, by omega, by go_num, by rw [hs]; go_num⟩
      case measure => simp [intOf]; omega
    · have he : k = m.length := by omega
      subst he
      rw [unhide HE]
      go_wp2
      go_ret2
      exact ⟨rfl, rfl⟩

theorem rint_none (a : Option Addr) (cap : Nat) (w : World) (l : List Nat) (hl : l.length ≤ 140737488355328) (h256 : Small l) (hB : Bytes w a l) (hp : ¬ Larder.Plain (bare l)) :
    Calls Tryz.prog 80 #[.slice a l.length cap] w fun e w' => e = .returned (.tuple #[.int .i64 0, .int .i64 12]) ∧ w' = w := by
  have H1 := hide (digits_none a cap w l hl h256 hB hp)
  clear hB hp h256
  go_enter Tryz.func80, Tryz.ntmps80
  generalize (⟨#[57, 50, 50, 51, 51, 55, 50, 48, 51, 54, 56, 53, 52, 55, 55, 53, 56, 48, 55]⟩ : ByteArray) = U7 at *
  generalize (⟨#[57, 50, 50, 51, 51, 55, 50, 48, 51, 54, 56, 53, 52, 55, 55, 53, 56, 48, 56]⟩ : ByteArray) = U8 at *
  go_wp2_with fail
  refine (unhide H1).mono ?_
  rintro e w' ⟨rfl, h⟩; obtain rfl := h.symm
  go_wp2
  go_ret2
  exact ⟨rfl, rfl⟩

theorem num_short (m : List Nat) (hd : Larder.Digs m) (h : m.length < 19) : Larder.numOf m < 9223372036854775808 := by
  have h1 := Larder.numK_lt m hd m.length (Nat.le_refl _)
  have h2 : 10 ^ m.length ≤ 10 ^ 18 := Nat.pow_le_pow_right (by decide) (by omega)
  have h3 : (10 : Nat) ^ 18 < 9223372036854775808 := by decide
  unfold Larder.numOf; omega
theorem num_long (m : List Nat) (hp : Larder.Plain m) (h : 19 < m.length) : 9223372036854775808 < Larder.numOf m := by
  have h0 : m.getD 0 0 ≠ 48 := fun h' => hp.2.1 ⟨h', by omega⟩
  have h1 := Larder.numK_ge m hp.2.2 h0 (m.length - 1) (by omega)
  have h2 : 10 ^ 19 ≤ 10 ^ (m.length - 1) := Nat.pow_le_pow_right (by decide) (by omega)
  have h3 : (9223372036854775808 : Nat) < 10 ^ 19 := by decide
  have h4 : m.length - 1 + 1 = m.length := by omega
  rw [h4] at h1
  unfold Larder.numOf; omega
theorem bytes_zero {w : World} {b off : Nat} {l : List Nat} (hB : Bytes w (some ⟨b, off, none⟩) l) (h : 0 < l.length) : w.cell? ⟨b, off, none⟩ = some (.int .u8 (l.getD 0 0 : Nat)) := by
  rcases hB with rfl | ⟨b', off', e, _, hc⟩
  · simp at h
  · cases e; exact hc 0 h

theorem rint_any (a : Option Addr) (cap : Nat) (w : World) (l : List Nat) (hl : l.length ≤ 140737488355328) (h256 : Small l) (hB : Bytes w a l) :
    Calls Tryz.prog 80 #[.slice a l.length cap] w fun e w' => e = .returned (.tuple #[.int .i64 (Larder.intRes l).1, .int .i64 ((Larder.intRes l).2 : Nat)]) ∧ w' = w := by
  by_cases hb : Larder.Plain (bare l)
  · have hdig := digits_some a cap w l hl h256 hB hb
    have hpos : 0 < l.length := by
      cases l with
      | nil => exact absurd hb Larder.not_plain_nil
      | cons _ _ => simp
    obtain ⟨b, off, rfl⟩ := bytes_at hB hpos
    have hc0 := bytes_zero hB hpos
    have h25 := h256 0 hpos
    classical
    rw [Larder.intRes_def]
    by_cases h45 : l.getD 0 0 = 45
    · by_cases hc : 1 < l.length ∧ l.getD 0 0 = 45 ∧ l.getD 1 0 ≠ 48
      · have e : bare l = l.drop 1 := by unfold bare; rw [if_pos hc]
        rw [e] at hb hdig
        have hz : (l.drop 1).getD 0 0 ≠ 48 := by rw [Larder.getD_tail]; exact hc.2.2
        have hml : (l.drop 1).length ≤ 140737488355328 := by rw [List.length_drop]; omega
        rw [if_pos h45, if_pos ⟨hb, hz⟩]
        clear e
        generalize l.drop 1 = m at *
        rcases Nat.lt_trichotomy m.length 19 with h | h | h
        · have hn : Larder.numOf m ≤ 9223372036854775808 := Nat.le_of_lt (num_short m hb.2.2 h)
          rw [if_pos hn]
          exact rint_neg_short b off l.length cap w m _ hml hpos (by omega) hc0 h25 h45 hb h hn hdig
        · by_cases hn : Larder.numOf m ≤ 9223372036854775808
          · rw [if_pos hn]
            exact rint_neg_mid b off l.length cap w m _ hml hpos (by omega) hc0 h25 h45 hb h hn hdig
          · rw [if_neg hn]
            exact rint_neg_over b off l.length cap w m _ hml hpos (by omega) hc0 h25 h45 hb h hn hdig
        · have hn : ¬ Larder.numOf m ≤ 9223372036854775808 := by have := num_long m hb h; omega
          rw [if_neg hn]
          exact rint_neg_long b off l.length cap w m _ hml hpos (by omega) hc0 h25 h45 hb h hdig
      · have e : bare l = l := by unfold bare; rw [if_neg hc]
        rw [e] at hb
        exact absurd hb (not_plain_sign l h45)
    · have e : bare l = l := by unfold bare; rw [if_neg (fun h => h45 h.2.1)]
      rw [e] at hb hdig
      rw [if_neg h45, if_pos hb]
      rcases Nat.lt_trichotomy l.length 19 with h | h | h
      · have hn := num_short l hb.2.2 h
        rw [if_pos hn]
        exact rint_pos_short b off l.length cap w l _ hl hpos (by omega) hc0 h25 h45 hb h hn hdig
      · by_cases hn : Larder.numOf l < 9223372036854775808
        · rw [if_pos hn]
          exact rint_pos_mid b off l.length cap w l _ hl hpos (by omega) hc0 h25 h45 hb h hn hdig
        · rw [if_neg hn]
          exact rint_pos_over b off l.length cap w l _ hl hpos (by omega) hc0 h25 h45 hb h hn hdig
      · have hn : ¬ Larder.numOf l < 9223372036854775808 := by have := num_long l hb h; omega
        rw [if_neg hn]
        exact rint_pos_long b off l.length cap w l _ hl hpos (by omega) hc0 h25 h45 hb h hdig
  · have e : Larder.intRes l = (0, 12) := by
      classical
      rw [Larder.intRes_def]
      unfold bare at *
      by_cases h45 : l.getD 0 0 = 45
      · rw [if_pos h45, if_neg]
        rintro ⟨h1, h2⟩
        have h3 := h1.1
        rw [List.length_drop] at h3
        rw [Larder.getD_tail] at h2
        rw [if_pos ⟨by omega, h45, h2⟩] at hb
        exact hb h1
      · rw [if_neg (fun h => h45 h.2.1)] at hb
        rw [if_neg h45, if_neg hb]
    rw [e]
    exact rint_none a cap w l hl h256 hB hb
end Go.Proofs.YtidfbelckdlbhabGreat
