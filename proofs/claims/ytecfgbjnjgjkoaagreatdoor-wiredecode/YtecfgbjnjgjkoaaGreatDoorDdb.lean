/- The document's Decode: a number's line. -/
import Derived.Test.YtecfgbjnjgjkoaaGreatDoorRUint
import Derived.Test.YtecfgbjnjgjkoaaGreatDoorDcM
import Derived.Test.YtecfgbjnjgjkoaaGreatDoorLiw
import Derived.Test.YtecfgbjnjgjkoaaGreatDoorDce
import Derived.Test.YtecfgbjnjgjkoaaGreatDoorLix
namespace Go.Proofs.YtecfgbjnjgjkoaaGreatDoor
open Go.ChangeShapes Go.WideShapes Go.ChangeAt Go.RowKit
set_option linter.unusedVariables false
def most7 : List Nat := [57, 50, 50, 51, 51, 55, 50, 48, 51, 54, 56, 53, 52, 55, 55, 53, 56, 48, 55]
theorem most7_str : str most7 = ⟨#[57, 50, 50, 51, 51, 55, 50, 48, 51, 54, 56, 53, 52, 55, 55, 53, 56, 48, 55]⟩ := by decide
theorem most7_num : Larder.numOf most7 = 9223372036854775807 := by decide
theorem most7_digs : Larder.Digs most7 := by unfold Larder.Digs Larder.isDigit; decide
def most8 : List Nat := [57, 50, 50, 51, 51, 55, 50, 48, 51, 54, 56, 53, 52, 55, 55, 53, 56, 48, 56]
theorem most8_str : str most8 = ⟨#[57, 50, 50, 51, 51, 55, 50, 48, 51, 54, 56, 53, 52, 55, 55, 53, 56, 48, 56]⟩ := by decide
theorem most8_num : Larder.numOf most8 = 9223372036854775808 := by decide
theorem most8_digs : Larder.Digs most8 := by unfold Larder.Digs Larder.isDigit; decide

theorem rint_pos_mid (b off len : Nat) (cap : Nat) (w : World) (m : List Nat) (c0 : Nat) (hl : m.length ≤ 140737488355328) (hlen : 0 < len) (hlen2 : len ≤ 140737488355329) (hc0 : w.cell? ⟨b, off, none⟩ = some (.int .u8 (c0 : Nat))) (hc25 : c0 < 256) (h45 : c0 ≠ 45) (hp : Larder.Plain m) (h19 : m.length = 19) (hn : Larder.numOf m < 9223372036854775808)
    (hdig : Calls Tryz.prog 119 #[.slice (some ⟨b, off, none⟩) len cap] w fun e w' => e = .returned (.tuple #[.string (str m), .bool true]) ∧ w' = w) :
    Calls Tryz.prog 95 #[.slice (some ⟨b, off, none⟩) len cap] w fun e w' => e = .returned (.tuple #[.int .i64 (Larder.numOf m : Nat), .int .i64 0]) ∧ w' = w := by
  have H1 := hide hdig
  clear hdig
  have hst := str_size m
  have HT := hide (fun k h => str_get m hp.2.2.small k h)
  have HD := hide (fun k h => hp.2.2 k h)
  have HL := hide (fun k h => Larder.numK_le m k h)
  have HE : Hid (Larder.numK m m.length = Larder.numOf m) := hide rfl
  have e45 : ((c0 : Int) == 45) = false := by rw [beq_eq_false_iff_ne]; omega
  have hmore := str_more m most7 hp.2.2 most7_digs h19
  rw [most7_str, most7_num, decide_eq_false (by omega)] at hmore
  clear hp
  generalize str m = T at *
  have HD' : Hid (∀ k, k < 19 → Larder.isDigit (m.getD k 0)) := hide (fun k h => unhide HD k (by omega))
  have HL' : Hid (∀ k, k ≤ 19 → Larder.numK m k ≤ Larder.numOf m) := hide (fun k h => unhide HL k (by omega))
  clear HD HL
  have HD := HD'
  have HL := HL'
  clear HD' HL'
  rw [h19] at hst HE
  clear hl h19
  generalize Larder.numOf m = N at *
  have hu7 : (⟨#[57, 50, 50, 51, 51, 55, 50, 48, 51, 54, 56, 53, 52, 55, 55, 53, 56, 48, 55]⟩ : ByteArray).size = 19 := rfl
  have hu8 : (⟨#[57, 50, 50, 51, 51, 55, 50, 48, 51, 54, 56, 53, 52, 55, 55, 53, 56, 48, 56]⟩ : ByteArray).size = 19 := rfl
  go_enter Tryz.func95, Tryz.ntmps95
  generalize (⟨#[57, 50, 50, 51, 51, 55, 50, 48, 51, 54, 56, 53, 52, 55, 55, 53, 56, 48, 55]⟩ : ByteArray) = U7 at *
  generalize (⟨#[57, 50, 50, 51, 51, 55, 50, 48, 51, 54, 56, 53, 52, 55, 55, 53, 56, 48, 56]⟩ : ByteArray) = U8 at *
  go_wp2_with fail
  refine (unhide H1).mono ?_
  rintro e w' ⟨rfl, h⟩; obtain rfl := h.symm
  go_wp2
  go_loop [7, 8] (fun r i => ∃ k : Nat, k ≤ 19 ∧ i = .int .i64 k ∧ r = .int .i64 (Larder.numK m k : Nat)) (fun _ i => 19 - (intOf i).toNat)
  case atStart => exact ⟨0, Nat.zero_le _, rfl, rfl⟩
  case round =>
    obtain ⟨k, hk, rfl, rfl⟩ := hrel
    by_cases hlt : k < 19
    · have hcx : ∀ h, (T[k]'h).toNat = m.getD k 0 := fun h => unhide HT k h
      have hdd := unhide HD k (by omega)
      have h1 := hdd.1
      have h2 := hdd.2
      have hs := Larder.numK_succ m k
      have hle := unhide HL (k + 1) (by omega)
      rw [hs] at hle
      clear hdd
      generalize m.getD k 0 = c at *
      generalize Larder.numK m k = n at *
      obtain ⟨d, rfl⟩ := Nat.exists_eq_add_of_le h1
      have hd9 : d ≤ 9 := by omega
      have e48 : (((48 + d : Nat) : Int)) - 48 = (d : Int) := by omega
      go_wp2
      go_round
      case rel => exact ⟨k + 1, by omega, by go_num, by rw [hs]; go_num⟩
      case measure => simp [intOf]; omega
    · have he : k = 19 := by omega
      subst he
      rw [unhide HE]
      go_wp2
      go_ret2
      exact ⟨rfl, rfl⟩

theorem rint_pos_over (b off len : Nat) (cap : Nat) (w : World) (m : List Nat) (c0 : Nat) (hl : m.length ≤ 140737488355328) (hlen : 0 < len) (hlen2 : len ≤ 140737488355329) (hc0 : w.cell? ⟨b, off, none⟩ = some (.int .u8 (c0 : Nat))) (hc25 : c0 < 256) (h45 : c0 ≠ 45) (hp : Larder.Plain m) (h19 : m.length = 19) (hn : ¬ Larder.numOf m < 9223372036854775808)
    (hdig : Calls Tryz.prog 119 #[.slice (some ⟨b, off, none⟩) len cap] w fun e w' => e = .returned (.tuple #[.string (str m), .bool true]) ∧ w' = w) :
    Calls Tryz.prog 95 #[.slice (some ⟨b, off, none⟩) len cap] w fun e w' => e = .returned (.tuple #[.int .i64 0, .int .i64 13]) ∧ w' = w := by
  have H1 := hide hdig
  clear hdig
  have hst := str_size m
  have HT := hide (fun k h => str_get m hp.2.2.small k h)
  have HD := hide (fun k h => hp.2.2 k h)
  have HL := hide (fun k h => Larder.numK_le m k h)
  have HE : Hid (Larder.numK m m.length = Larder.numOf m) := hide rfl
  have e45 : ((c0 : Int) == 45) = false := by rw [beq_eq_false_iff_ne]; omega
  have hmore := str_more m most7 hp.2.2 most7_digs h19
  rw [most7_str, most7_num, decide_eq_true (by omega)] at hmore
  clear hp
  generalize str m = T at *
  have HD' : Hid (∀ k, k < 19 → Larder.isDigit (m.getD k 0)) := hide (fun k h => unhide HD k (by omega))
  have HL' : Hid (∀ k, k ≤ 19 → Larder.numK m k ≤ Larder.numOf m) := hide (fun k h => unhide HL k (by omega))
  clear HD HL
  have HD := HD'
  have HL := HL'
  clear HD' HL'
  rw [h19] at hst HE
  clear hl h19
  have hu7 : (⟨#[57, 50, 50, 51, 51, 55, 50, 48, 51, 54, 56, 53, 52, 55, 55, 53, 56, 48, 55]⟩ : ByteArray).size = 19 := rfl
  have hu8 : (⟨#[57, 50, 50, 51, 51, 55, 50, 48, 51, 54, 56, 53, 52, 55, 55, 53, 56, 48, 56]⟩ : ByteArray).size = 19 := rfl
  go_enter Tryz.func95, Tryz.ntmps95
  generalize (⟨#[57, 50, 50, 51, 51, 55, 50, 48, 51, 54, 56, 53, 52, 55, 55, 53, 56, 48, 55]⟩ : ByteArray) = U7 at *
  generalize (⟨#[57, 50, 50, 51, 51, 55, 50, 48, 51, 54, 56, 53, 52, 55, 55, 53, 56, 48, 56]⟩ : ByteArray) = U8 at *
  go_wp2_with fail
  refine (unhide H1).mono ?_
  rintro e w' ⟨rfl, h⟩; obtain rfl := h.symm
  go_wp2
  go_ret2
  exact ⟨rfl, rfl⟩

theorem rint_pos_long (b off len : Nat) (cap : Nat) (w : World) (m : List Nat) (c0 : Nat) (hl : m.length ≤ 140737488355328) (hlen : 0 < len) (hlen2 : len ≤ 140737488355329) (hc0 : w.cell? ⟨b, off, none⟩ = some (.int .u8 (c0 : Nat))) (hc25 : c0 < 256) (h45 : c0 ≠ 45) (hp : Larder.Plain m) (h19 : 19 < m.length)
    (hdig : Calls Tryz.prog 119 #[.slice (some ⟨b, off, none⟩) len cap] w fun e w' => e = .returned (.tuple #[.string (str m), .bool true]) ∧ w' = w) :
    Calls Tryz.prog 95 #[.slice (some ⟨b, off, none⟩) len cap] w fun e w' => e = .returned (.tuple #[.int .i64 0, .int .i64 13]) ∧ w' = w := by
  have H1 := hide hdig
  clear hdig
  have hst := str_size m
  have HT := hide (fun k h => str_get m hp.2.2.small k h)
  have HD := hide (fun k h => hp.2.2 k h)
  have HL := hide (fun k h => Larder.numK_le m k h)
  have HE : Hid (Larder.numK m m.length = Larder.numOf m) := hide rfl
  have e45 : ((c0 : Int) == 45) = false := by rw [beq_eq_false_iff_ne]; omega
  clear hp
  generalize str m = T at *
  have e19 : decide (19 < (m.length : Int)) = true := by simp; omega
  have hu7 : (⟨#[57, 50, 50, 51, 51, 55, 50, 48, 51, 54, 56, 53, 52, 55, 55, 53, 56, 48, 55]⟩ : ByteArray).size = 19 := rfl
  have hu8 : (⟨#[57, 50, 50, 51, 51, 55, 50, 48, 51, 54, 56, 53, 52, 55, 55, 53, 56, 48, 56]⟩ : ByteArray).size = 19 := rfl
  go_enter Tryz.func95, Tryz.ntmps95
  generalize (⟨#[57, 50, 50, 51, 51, 55, 50, 48, 51, 54, 56, 53, 52, 55, 55, 53, 56, 48, 55]⟩ : ByteArray) = U7 at *
  generalize (⟨#[57, 50, 50, 51, 51, 55, 50, 48, 51, 54, 56, 53, 52, 55, 55, 53, 56, 48, 56]⟩ : ByteArray) = U8 at *
  go_wp2_with fail
  refine (unhide H1).mono ?_
  rintro e w' ⟨rfl, h⟩; obtain rfl := h.symm
  go_wp2
  go_ret2
  exact ⟨rfl, rfl⟩

theorem rint_pos_short (b off len : Nat) (cap : Nat) (w : World) (m : List Nat) (c0 : Nat) (hl : m.length ≤ 140737488355328) (hlen : 0 < len) (hlen2 : len ≤ 140737488355329) (hc0 : w.cell? ⟨b, off, none⟩ = some (.int .u8 (c0 : Nat))) (hc25 : c0 < 256) (h45 : c0 ≠ 45) (hp : Larder.Plain m) (h19 : m.length < 19) (hn : Larder.numOf m < 9223372036854775808)
    (hdig : Calls Tryz.prog 119 #[.slice (some ⟨b, off, none⟩) len cap] w fun e w' => e = .returned (.tuple #[.string (str m), .bool true]) ∧ w' = w) :
    Calls Tryz.prog 95 #[.slice (some ⟨b, off, none⟩) len cap] w fun e w' => e = .returned (.tuple #[.int .i64 (Larder.numOf m : Nat), .int .i64 0]) ∧ w' = w := by
  have H1 := hide hdig
  clear hdig
  have hst := str_size m
  have HT := hide (fun k h => str_get m hp.2.2.small k h)
  have HD := hide (fun k h => hp.2.2 k h)
  have HL := hide (fun k h => Larder.numK_le m k h)
  have HE : Hid (Larder.numK m m.length = Larder.numOf m) := hide rfl
  have e45 : ((c0 : Int) == 45) = false := by rw [beq_eq_false_iff_ne]; omega
  clear hp
  generalize str m = T at *
  have e19 : decide (19 < (m.length : Int)) = false := by simp; omega
  have e20 : ((m.length : Int) == 19) = false := by rw [beq_eq_false_iff_ne]; omega
  generalize Larder.numOf m = N at *
  have hu7 : (⟨#[57, 50, 50, 51, 51, 55, 50, 48, 51, 54, 56, 53, 52, 55, 55, 53, 56, 48, 55]⟩ : ByteArray).size = 19 := rfl
  have hu8 : (⟨#[57, 50, 50, 51, 51, 55, 50, 48, 51, 54, 56, 53, 52, 55, 55, 53, 56, 48, 56]⟩ : ByteArray).size = 19 := rfl
  go_enter Tryz.func95, Tryz.ntmps95
  generalize (⟨#[57, 50, 50, 51, 51, 55, 50, 48, 51, 54, 56, 53, 52, 55, 55, 53, 56, 48, 55]⟩ : ByteArray) = U7 at *
  generalize (⟨#[57, 50, 50, 51, 51, 55, 50, 48, 51, 54, 56, 53, 52, 55, 55, 53, 56, 48, 56]⟩ : ByteArray) = U8 at *
  go_wp2_with fail
  refine (unhide H1).mono ?_
  rintro e w' ⟨rfl, h⟩; obtain rfl := h.symm
  go_wp2
  go_loop [7, 8] (fun r i => ∃ k : Nat, k ≤ m.length ∧ i = .int .i64 k ∧ r = .int .i64 (Larder.numK m k : Nat)) (fun _ i => m.length - (intOf i).toNat)
  case atStart => exact ⟨0, Nat.zero_le _, rfl, rfl⟩
  case round =>
    obtain ⟨k, hk, rfl, rfl⟩ := hrel
    by_cases hlt : k < m.length
    · have hcx : ∀ h, (T[k]'h).toNat = m.getD k 0 := fun h => unhide HT k h
      have hdd := unhide HD k (by omega)
      have h1 := hdd.1
      have h2 := hdd.2
      have hs := Larder.numK_succ m k
      have hle := unhide HL (k + 1) (by omega)
      rw [hs] at hle
      clear hdd
      generalize m.getD k 0 = c at *
      generalize Larder.numK m k = n at *
      obtain ⟨d, rfl⟩ := Nat.exists_eq_add_of_le h1
      have hd9 : d ≤ 9 := by omega
      have e48 : (((48 + d : Nat) : Int)) - 48 = (d : Int) := by omega
      go_wp2
      go_round
      case rel => exact ⟨k + 1, by omega, by go_num, by rw [hs]; go_num⟩
      case measure => simp [intOf]; omega
    · have he : k = m.length := by omega
      subst he
      rw [unhide HE]
      go_wp2
      go_ret2
      exact ⟨rfl, rfl⟩

theorem rint_neg_mid (b off len : Nat) (cap : Nat) (w : World) (m : List Nat) (c0 : Nat) (hl : m.length ≤ 140737488355328) (hlen : 0 < len) (hlen2 : len ≤ 140737488355329) (hc0 : w.cell? ⟨b, off, none⟩ = some (.int .u8 (c0 : Nat))) (hc25 : c0 < 256) (h45 : c0 = 45) (hp : Larder.Plain m) (h19 : m.length = 19) (hn : Larder.numOf m ≤ 9223372036854775808)
    (hdig : Calls Tryz.prog 119 #[.slice (some ⟨b, off, none⟩) len cap] w fun e w' => e = .returned (.tuple #[.string (str m), .bool true]) ∧ w' = w) :
    Calls Tryz.prog 95 #[.slice (some ⟨b, off, none⟩) len cap] w fun e w' => e = .returned (.tuple #[.int .i64 (-(Larder.numOf m : Int)), .int .i64 0]) ∧ w' = w := by
  have H1 := hide hdig
  clear hdig
  have hst := str_size m
  have HT := hide (fun k h => str_get m hp.2.2.small k h)
  have HD := hide (fun k h => hp.2.2 k h)
  have HL := hide (fun k h => Larder.numK_le m k h)
  have HE : Hid (Larder.numK m m.length = Larder.numOf m) := hide rfl
  subst h45
  have hmore := str_more m most8 hp.2.2 most8_digs h19
  rw [most8_str, most8_num, decide_eq_false (by omega)] at hmore
  clear hp
  generalize str m = T at *
  have HD' : Hid (∀ k, k < 19 → Larder.isDigit (m.getD k 0)) := hide (fun k h => unhide HD k (by omega))
  have HL' : Hid (∀ k, k ≤ 19 → Larder.numK m k ≤ Larder.numOf m) := hide (fun k h => unhide HL k (by omega))
  clear HD HL
  have HD := HD'
  have HL := HL'
  clear HD' HL'
  rw [h19] at hst HE
  clear hl h19
  generalize Larder.numOf m = N at *
  have hu7 : (⟨#[57, 50, 50, 51, 51, 55, 50, 48, 51, 54, 56, 53, 52, 55, 55, 53, 56, 48, 55]⟩ : ByteArray).size = 19 := rfl
  have hu8 : (⟨#[57, 50, 50, 51, 51, 55, 50, 48, 51, 54, 56, 53, 52, 55, 55, 53, 56, 48, 56]⟩ : ByteArray).size = 19 := rfl
  go_enter Tryz.func95, Tryz.ntmps95
  generalize (⟨#[57, 50, 50, 51, 51, 55, 50, 48, 51, 54, 56, 53, 52, 55, 55, 53, 56, 48, 55]⟩ : ByteArray) = U7 at *
  generalize (⟨#[57, 50, 50, 51, 51, 55, 50, 48, 51, 54, 56, 53, 52, 55, 55, 53, 56, 48, 56]⟩ : ByteArray) = U8 at *
  go_wp2_with fail
  refine (unhide H1).mono ?_
  rintro e w' ⟨rfl, h⟩; obtain rfl := h.symm
  go_wp2
  go_loop [7, 8] (fun r i => ∃ k : Nat, k ≤ 19 ∧ i = .int .i64 k ∧ r = .int .i64 (-(Larder.numK m k : Int))) (fun _ i => 19 - (intOf i).toNat)
  case atStart => exact ⟨0, Nat.zero_le _, rfl, rfl⟩
  case round =>
    obtain ⟨k, hk, rfl, rfl⟩ := hrel
    by_cases hlt : k < 19
    · have hcx : ∀ h, (T[k]'h).toNat = m.getD k 0 := fun h => unhide HT k h
      have hdd := unhide HD k (by omega)
      have h1 := hdd.1
      have h2 := hdd.2
      have hs := Larder.numK_succ m k
      have hle := unhide HL (k + 1) (by omega)
      rw [hs] at hle
      clear hdd
      generalize m.getD k 0 = c at *
      generalize Larder.numK m k = n at *
      obtain ⟨d, rfl⟩ := Nat.exists_eq_add_of_le h1
      have hd9 : d ≤ 9 := by omega
      have e48 : (((48 + d : Nat) : Int)) - 48 = (d : Int) := by omega
      go_wp2
      go_round
      case rel => exact ⟨k + 1, by omega, by go_num, by rw [hs]; go_num⟩
      case measure => simp [intOf]; omega
    · have he : k = 19 := by omega
      subst he
      rw [unhide HE]
      go_wp2
      go_ret2
      exact ⟨rfl, rfl⟩

theorem rint_neg_over (b off len : Nat) (cap : Nat) (w : World) (m : List Nat) (c0 : Nat) (hl : m.length ≤ 140737488355328) (hlen : 0 < len) (hlen2 : len ≤ 140737488355329) (hc0 : w.cell? ⟨b, off, none⟩ = some (.int .u8 (c0 : Nat))) (hc25 : c0 < 256) (h45 : c0 = 45) (hp : Larder.Plain m) (h19 : m.length = 19) (hn : ¬ Larder.numOf m ≤ 9223372036854775808)
    (hdig : Calls Tryz.prog 119 #[.slice (some ⟨b, off, none⟩) len cap] w fun e w' => e = .returned (.tuple #[.string (str m), .bool true]) ∧ w' = w) :
    Calls Tryz.prog 95 #[.slice (some ⟨b, off, none⟩) len cap] w fun e w' => e = .returned (.tuple #[.int .i64 0, .int .i64 13]) ∧ w' = w := by
  have H1 := hide hdig
  clear hdig
  have hst := str_size m
  have HT := hide (fun k h => str_get m hp.2.2.small k h)
  have HD := hide (fun k h => hp.2.2 k h)
  have HL := hide (fun k h => Larder.numK_le m k h)
  have HE : Hid (Larder.numK m m.length = Larder.numOf m) := hide rfl
  subst h45
  have hmore := str_more m most8 hp.2.2 most8_digs h19
  rw [most8_str, most8_num, decide_eq_true (by omega)] at hmore
  clear hp
  generalize str m = T at *
  have HD' : Hid (∀ k, k < 19 → Larder.isDigit (m.getD k 0)) := hide (fun k h => unhide HD k (by omega))
  have HL' : Hid (∀ k, k ≤ 19 → Larder.numK m k ≤ Larder.numOf m) := hide (fun k h => unhide HL k (by omega))
  clear HD HL
  have HD := HD'
  have HL := HL'
  clear HD' HL'
  rw [h19] at hst HE
  clear hl h19
  have hu7 : (⟨#[57, 50, 50, 51, 51, 55, 50, 48, 51, 54, 56, 53, 52, 55, 55, 53, 56, 48, 55]⟩ : ByteArray).size = 19 := rfl
  have hu8 : (⟨#[57, 50, 50, 51, 51, 55, 50, 48, 51, 54, 56, 53, 52, 55, 55, 53, 56, 48, 56]⟩ : ByteArray).size = 19 := rfl
  go_enter Tryz.func95, Tryz.ntmps95
  generalize (⟨#[57, 50, 50, 51, 51, 55, 50, 48, 51, 54, 56, 53, 52, 55, 55, 53, 56, 48, 55]⟩ : ByteArray) = U7 at *
  generalize (⟨#[57, 50, 50, 51, 51, 55, 50, 48, 51, 54, 56, 53, 52, 55, 55, 53, 56, 48, 56]⟩ : ByteArray) = U8 at *
  go_wp2_with fail
  refine (unhide H1).mono ?_
  rintro e w' ⟨rfl, h⟩; obtain rfl := h.symm
  go_wp2
  go_ret2
  exact ⟨rfl, rfl⟩

theorem rint_neg_long (b off len : Nat) (cap : Nat) (w : World) (m : List Nat) (c0 : Nat) (hl : m.length ≤ 140737488355328) (hlen : 0 < len) (hlen2 : len ≤ 140737488355329) (hc0 : w.cell? ⟨b, off, none⟩ = some (.int .u8 (c0 : Nat))) (hc25 : c0 < 256) (h45 : c0 = 45) (hp : Larder.Plain m) (h19 : 19 < m.length)
    (hdig : Calls Tryz.prog 119 #[.slice (some ⟨b, off, none⟩) len cap] w fun e w' => e = .returned (.tuple #[.string (str m), .bool true]) ∧ w' = w) :
    Calls Tryz.prog 95 #[.slice (some ⟨b, off, none⟩) len cap] w fun e w' => e = .returned (.tuple #[.int .i64 0, .int .i64 13]) ∧ w' = w := by
  have H1 := hide hdig
  clear hdig
  have hst := str_size m
  have HT := hide (fun k h => str_get m hp.2.2.small k h)
  have HD := hide (fun k h => hp.2.2 k h)
  have HL := hide (fun k h => Larder.numK_le m k h)
  have HE : Hid (Larder.numK m m.length = Larder.numOf m) := hide rfl
  subst h45
  clear hp
  generalize str m = T at *
  have e19 : decide (19 < (m.length : Int)) = true := by simp; omega
  have hu7 : (⟨#[57, 50, 50, 51, 51, 55, 50, 48, 51, 54, 56, 53, 52, 55, 55, 53, 56, 48, 55]⟩ : ByteArray).size = 19 := rfl
  have hu8 : (⟨#[57, 50, 50, 51, 51, 55, 50, 48, 51, 54, 56, 53, 52, 55, 55, 53, 56, 48, 56]⟩ : ByteArray).size = 19 := rfl
  go_enter Tryz.func95, Tryz.ntmps95
  generalize (⟨#[57, 50, 50, 51, 51, 55, 50, 48, 51, 54, 56, 53, 52, 55, 55, 53, 56, 48, 55]⟩ : ByteArray) = U7 at *
  generalize (⟨#[57, 50, 50, 51, 51, 55, 50, 48, 51, 54, 56, 53, 52, 55, 55, 53, 56, 48, 56]⟩ : ByteArray) = U8 at *
  go_wp2_with fail
  refine (unhide H1).mono ?_
  rintro e w' ⟨rfl, h⟩; obtain rfl := h.symm
  go_wp2
  go_ret2
  exact ⟨rfl, rfl⟩

theorem rint_neg_short (b off len : Nat) (cap : Nat) (w : World) (m : List Nat) (c0 : Nat) (hl : m.length ≤ 140737488355328) (hlen : 0 < len) (hlen2 : len ≤ 140737488355329) (hc0 : w.cell? ⟨b, off, none⟩ = some (.int .u8 (c0 : Nat))) (hc25 : c0 < 256) (h45 : c0 = 45) (hp : Larder.Plain m) (h19 : m.length < 19) (hn : Larder.numOf m ≤ 9223372036854775808)
    (hdig : Calls Tryz.prog 119 #[.slice (some ⟨b, off, none⟩) len cap] w fun e w' => e = .returned (.tuple #[.string (str m), .bool true]) ∧ w' = w) :
    Calls Tryz.prog 95 #[.slice (some ⟨b, off, none⟩) len cap] w fun e w' => e = .returned (.tuple #[.int .i64 (-(Larder.numOf m : Int)), .int .i64 0]) ∧ w' = w := by
  have H1 := hide hdig
  clear hdig
  have hst := str_size m
  have HT := hide (fun k h => str_get m hp.2.2.small k h)
  have HD := hide (fun k h => hp.2.2 k h)
  have HL := hide (fun k h => Larder.numK_le m k h)
  have HE : Hid (Larder.numK m m.length = Larder.numOf m) := hide rfl
  subst h45
  clear hp
  generalize str m = T at *
  have e19 : decide (19 < (m.length : Int)) = false := by simp; omega
  have e20 : ((m.length : Int) == 19) = false := by rw [beq_eq_false_iff_ne]; omega
  generalize Larder.numOf m = N at *
  have hu7 : (⟨#[57, 50, 50, 51, 51, 55, 50, 48, 51, 54, 56, 53, 52, 55, 55, 53, 56, 48, 55]⟩ : ByteArray).size = 19 := rfl
  have hu8 : (⟨#[57, 50, 50, 51, 51, 55, 50, 48, 51, 54, 56, 53, 52, 55, 55, 53, 56, 48, 56]⟩ : ByteArray).size = 19 := rfl
  go_enter Tryz.func95, Tryz.ntmps95
  generalize (⟨#[57, 50, 50, 51, 51, 55, 50, 48, 51, 54, 56, 53, 52, 55, 55, 53, 56, 48, 55]⟩ : ByteArray) = U7 at *
  generalize (⟨#[57, 50, 50, 51, 51, 55, 50, 48, 51, 54, 56, 53, 52, 55, 55, 53, 56, 48, 56]⟩ : ByteArray) = U8 at *
  go_wp2_with fail
  refine (unhide H1).mono ?_
  rintro e w' ⟨rfl, h⟩; obtain rfl := h.symm
  go_wp2
  go_loop [7, 8] (fun r i => ∃ k : Nat, k ≤ m.length ∧ i = .int .i64 k ∧ r = .int .i64 (-(Larder.numK m k : Int))) (fun _ i => m.length - (intOf i).toNat)
  case atStart => exact ⟨0, Nat.zero_le _, rfl, rfl⟩
  case round =>
    obtain ⟨k, hk, rfl, rfl⟩ := hrel
    by_cases hlt : k < m.length
    · have hcx : ∀ h, (T[k]'h).toNat = m.getD k 0 := fun h => unhide HT k h
      have hdd := unhide HD k (by omega)
      have h1 := hdd.1
      have h2 := hdd.2
      have hs := Larder.numK_succ m k
      have hle := unhide HL (k + 1) (by omega)
      rw [hs] at hle
      clear hdd
      generalize m.getD k 0 = c at *
      generalize Larder.numK m k = n at *
      obtain ⟨d, rfl⟩ := Nat.exists_eq_add_of_le h1
      have hd9 : d ≤ 9 := by omega
      have e48 : (((48 + d : Nat) : Int)) - 48 = (d : Int) := by omega
      go_wp2
      go_round
      case rel => exact ⟨k + 1, by omega, by go_num, by rw [hs]; go_num⟩
      case measure => simp [intOf]; omega
    · have he : k = m.length := by omega
      subst he
      rw [unhide HE]
      go_wp2
      go_ret2
      exact ⟨rfl, rfl⟩

theorem rint_none (a : Option Addr) (cap : Nat) (w : World) (l : List Nat) (hl : l.length ≤ 140737488355328) (h256 : Small l) (hB : Bytes w a l) (hp : ¬ Larder.Plain (bare l)) :
    Calls Tryz.prog 95 #[.slice a l.length cap] w fun e w' => e = .returned (.tuple #[.int .i64 0, .int .i64 12]) ∧ w' = w := by
  have H1 := hide (digits_none a cap w l hl h256 hB hp)
  clear hB hp h256
  go_enter Tryz.func95, Tryz.ntmps95
  generalize (⟨#[57, 50, 50, 51, 51, 55, 50, 48, 51, 54, 56, 53, 52, 55, 55, 53, 56, 48, 55]⟩ : ByteArray) = U7 at *
  generalize (⟨#[57, 50, 50, 51, 51, 55, 50, 48, 51, 54, 56, 53, 52, 55, 55, 53, 56, 48, 56]⟩ : ByteArray) = U8 at *
  go_wp2_with fail
  refine (unhide H1).mono ?_
  rintro e w' ⟨rfl, h⟩; obtain rfl := h.symm
  go_wp2
  go_ret2
  exact ⟨rfl, rfl⟩

theorem num_short (m : List Nat) (hd : Larder.Digs m) (h : m.length < 19) : Larder.numOf m < 9223372036854775808 := by
  have h1 := Larder.numK_lt m hd m.length (Nat.le_refl _)
  have h2 : 10 ^ m.length ≤ 10 ^ 18 := Nat.pow_le_pow_right (by decide) (by omega)
  have h3 : (10 : Nat) ^ 18 < 9223372036854775808 := by decide
  unfold Larder.numOf; omega
theorem num_long (m : List Nat) (hp : Larder.Plain m) (h : 19 < m.length) : 9223372036854775808 < Larder.numOf m := by
  have h0 : m.getD 0 0 ≠ 48 := fun h' => hp.2.1 ⟨h', by omega⟩
  have h1 := Larder.numK_ge m hp.2.2 h0 (m.length - 1) (by omega)
  have h2 : 10 ^ 19 ≤ 10 ^ (m.length - 1) := Nat.pow_le_pow_right (by decide) (by omega)
  have h3 : (9223372036854775808 : Nat) < 10 ^ 19 := by decide
  have h4 : m.length - 1 + 1 = m.length := by omega
  rw [h4] at h1
  unfold Larder.numOf; omega
theorem bytes_zero {w : World} {b off : Nat} {l : List Nat} (hB : Bytes w (some ⟨b, off, none⟩) l) (h : 0 < l.length) : w.cell? ⟨b, off, none⟩ = some (.int .u8 (l.getD 0 0 : Nat)) := by
  rcases hB with rfl | ⟨b', off', e, _, hc⟩
  · simp at h
  · cases e; exact hc 0 h

theorem rint_any (a : Option Addr) (cap : Nat) (w : World) (l : List Nat) (hl : l.length ≤ 140737488355328) (h256 : Small l) (hB : Bytes w a l) :
    Calls Tryz.prog 95 #[.slice a l.length cap] w fun e w' => e = .returned (.tuple #[.int .i64 (Larder.intRes l).1, .int .i64 ((Larder.intRes l).2 : Nat)]) ∧ w' = w := by
  by_cases hb : Larder.Plain (bare l)
  · have hdig := digits_some a cap w l hl h256 hB hb
    have hpos : 0 < l.length := by
      cases l with
      | nil => exact absurd hb Larder.not_plain_nil
      | cons _ _ => simp
    obtain ⟨b, off, rfl⟩ := bytes_at hB hpos
    have hc0 := bytes_zero hB hpos
    have h25 := h256 0 hpos
    classical
    rw [Larder.intRes_def]
    by_cases h45 : l.getD 0 0 = 45
    · by_cases hc : 1 < l.length ∧ l.getD 0 0 = 45 ∧ l.getD 1 0 ≠ 48
      · have e : bare l = l.drop 1 := by unfold bare; rw [if_pos hc]
        rw [e] at hb hdig
        have hz : (l.drop 1).getD 0 0 ≠ 48 := by rw [Larder.getD_tail]; exact hc.2.2
        have hml : (l.drop 1).length ≤ 140737488355328 := by rw [List.length_drop]; omega
        rw [if_pos h45, if_pos ⟨hb, hz⟩]
        clear e
        generalize l.drop 1 = m at *
        rcases Nat.lt_trichotomy m.length 19 with h | h | h
        · have hn : Larder.numOf m ≤ 9223372036854775808 := Nat.le_of_lt (num_short m hb.2.2 h)
          rw [if_pos hn]
          exact rint_neg_short b off l.length cap w m _ hml hpos (by omega) hc0 h25 h45 hb h hn hdig
        · by_cases hn : Larder.numOf m ≤ 9223372036854775808
          · rw [if_pos hn]
            exact rint_neg_mid b off l.length cap w m _ hml hpos (by omega) hc0 h25 h45 hb h hn hdig
          · rw [if_neg hn]
            exact rint_neg_over b off l.length cap w m _ hml hpos (by omega) hc0 h25 h45 hb h hn hdig
        · have hn : ¬ Larder.numOf m ≤ 9223372036854775808 := by have := num_long m hb h; omega
          rw [if_neg hn]
          exact rint_neg_long b off l.length cap w m _ hml hpos (by omega) hc0 h25 h45 hb h hdig
      · have e : bare l = l := by unfold bare; rw [if_neg hc]
        rw [e] at hb
        exact absurd hb (not_plain_sign l h45)
    · have e : bare l = l := by unfold bare; rw [if_neg (fun h => h45 h.2.1)]
      rw [e] at hb hdig
      rw [if_neg h45, if_pos hb]
      rcases Nat.lt_trichotomy l.length 19 with h | h | h
      · have hn := num_short l hb.2.2 h
        rw [if_pos hn]
        exact rint_pos_short b off l.length cap w l _ hl hpos (by omega) hc0 h25 h45 hb h hn hdig
      · by_cases hn : Larder.numOf l < 9223372036854775808
        · rw [if_pos hn]
          exact rint_pos_mid b off l.length cap w l _ hl hpos (by omega) hc0 h25 h45 hb h hn hdig
        · rw [if_neg hn]
          exact rint_pos_over b off l.length cap w l _ hl hpos (by omega) hc0 h25 h45 hb h hn hdig
      · have hn : ¬ Larder.numOf l < 9223372036854775808 := by have := num_long l hb h; omega
        rw [if_neg hn]
        exact rint_pos_long b off l.length cap w l _ hl hpos (by omega) hc0 h25 h45 hb h hdig
  · have e : Larder.intRes l = (0, 12) := by
      classical
      rw [Larder.intRes_def]
      unfold bare at *
      by_cases h45 : l.getD 0 0 = 45
      · rw [if_pos h45, if_neg]
        rintro ⟨h1, h2⟩
        have h3 := h1.1
        rw [List.length_drop] at h3
        rw [Larder.getD_tail] at h2
        rw [if_pos ⟨by omega, h45, h2⟩] at hb
        exact hb h1
      · rw [if_neg (fun h => h45 h.2.1)] at hb
        rw [if_neg h45, if_neg hb]
    rw [e]
    exact rint_none a cap w l hl h256 hB hb
end Go.Proofs.YtecfgbjnjgjkoaaGreatDoor
namespace Go.Proofs.YtecfgbjnjgjkoaaGreatDoor
open Go.ChangeShapes Go.WideShapes Go.ChangeAt Go.RowKit
set_option linter.unusedVariables false
set_option linter.unusedSimpArgs false
set_option maxRecDepth 20000
set_option maxHeartbeats 4000000

theorem rwithin_any (w : World) (a : Option Addr) (n cp : Nat) (T : List Nat) (lo hi : Int) (hn : n = T.length) (hB : Bytes w a T) (hs : Small T) (hl : n ≤ 140737488355328) :
    Calls Tryz.prog 94 #[.slice a n cp, .int .i64 lo, .int .i64 hi] w fun e w' => e = .returned (.bool (Larder8.numV lo hi T).isSome) ∧ w = w' := by
  subst hn
  have CI := hide ((rint_any a cp w T hl hs hB).mono (fun e w' h => (⟨h.1, h.2.symm⟩ : _ ∧ w = w')))
  obtain ⟨v, hv⟩ : ∃ v, v = (Larder.intRes T).1 := ⟨_, rfl⟩
  obtain ⟨er, her⟩ : ∃ er, er = (Larder.intRes T).2 := ⟨_, rfl⟩
  have E : Larder8.numV lo hi T = if er = 0 ∧ lo ≤ v ∧ v ≤ hi then some v else none := by rw [hv, her]; rfl
  rw [← hv, ← her] at CI
  rw [E]
  clear hv her E hB hs
  by_cases h0 : er = 0
  · subst h0
    by_cases h1 : lo ≤ v
    · have f1 : decide (v ≥ lo) = true := decide_eq_true h1
      have f1' : decide (lo ≤ v) = true := decide_eq_true h1
      by_cases h2 : v ≤ hi
      · have f2 : decide (v ≤ hi) = true := decide_eq_true h2
        rw [if_pos ⟨rfl, h1, h2⟩]
        go_enter Tryz.func94, Tryz.ntmps94
        go_wp2_with (go_at_call 95; with_reducible refine (unhide CI).mono ?_; rintro e w5 ⟨rfl, h5⟩; subst h5)
        go_ret
        exact ⟨rfl, rfl⟩
      · have f2 : decide (v ≤ hi) = false := decide_eq_false h2
        rw [if_neg (by omega)]
        go_enter Tryz.func94, Tryz.ntmps94
        go_wp2_with (go_at_call 95; with_reducible refine (unhide CI).mono ?_; rintro e w5 ⟨rfl, h5⟩; subst h5)
        go_ret
        exact ⟨rfl, rfl⟩
    · have f1 : decide (v ≥ lo) = false := decide_eq_false h1
      have f1' : decide (lo ≤ v) = false := decide_eq_false h1
      rw [if_neg (by omega)]
      go_enter Tryz.func94, Tryz.ntmps94
      go_wp2_with (go_at_call 95; with_reducible refine (unhide CI).mono ?_; rintro e w5 ⟨rfl, h5⟩; subst h5)
      go_ret
      exact ⟨rfl, rfl⟩
  · have f0 : ((er : Int) == 0) = false := by rw [beq_eq_false_iff_ne]; omega
    rw [if_neg (fun e => h0 e.1)]
    go_enter Tryz.func94, Tryz.ntmps94
    go_wp2_with (go_at_call 95; with_reducible refine (unhide CI).mono ?_; rintro e w5 ⟨rfl, h5⟩; subst h5)
    go_ret
    exact ⟨rfl, rfl⟩
theorem rbegin_any (w : World) (a : Option Addr) (n cp : Nat) (T : List Nat) (lo hi : Int) (hn : n = T.length) (hB : Bytes w a T) (hs : Small T) (hl : n ≤ 140737488355328) :
    Calls Tryz.prog 93 #[.slice a n cp, .int .i64 lo, .int .i64 hi] w fun e w' => e = .returned (.bool (Larder8.begunP lo hi T)) ∧ w = w' := by
  have CW := hide (rwithin_any w a n cp T lo hi hn hB hs hl)
  by_cases h0 : T = []
  · subst h0
    simp only [List.length_nil] at hn
    subst hn
    have E : Larder8.begunP lo hi [] = true := rfl
    rw [E]
    clear hB hs
    go_enter Tryz.func93, Tryz.ntmps93
    go_wp2_with fail
    go_ret
    exact ⟨rfl, rfl⟩
  have hn0 : 0 < n := by rw [hn]; exact List.length_pos_iff.2 h0
  have z0 : ((n : Int) == 0) = false := by rw [beq_eq_false_iff_ne]; omega
  obtain ⟨b, off, rfl, hb, hc⟩ : ∃ b off, a = some ⟨b, off, none⟩ ∧ b < w.heap.size ∧ ∀ k, k < T.length → w.cell? ⟨b, off + k, none⟩ = some (.int .u8 (T.getD k 0 : Nat)) := by
    rcases hB with h | h
    · exact absurd h h0
    · exact h
  have c0 := hc 0 (by omega)
  simp only [Nat.add_zero] at c0
  have g1 : (0 : Int) < (n : Int) := by omega
  have E : Larder8.begunP lo hi T = if n = 1 ∧ T.getD 0 0 = 45 ∧ lo < 0 then true else if T = [45] then decide (lo < 0) else (Larder8.numV lo hi T).isSome := by
    unfold Larder8.begunP
    rw [if_neg h0]
    by_cases hm : T = [45]
    · subst hm
      simp only [List.length_cons, List.length_nil] at hn
      by_cases hlo : lo < 0
      · simp [hn, hlo]
      · simp [hlo]
    · rw [if_neg hm]
      by_cases q : n = 1 ∧ T.getD 0 0 = 45 ∧ lo < 0
      · exfalso
        apply hm
        match T, hn with
        | [c], _ => simp at q; rw [q.2.1]
        | c :: d :: r, hn => simp at hn; omega
      · rw [if_neg q]
  have V45 : T = [45] → ¬ lo < 0 → (Larder8.numV lo hi T).isSome = false := by
    intro e _
    subst e
    have : (Larder.intRes [45]).2 ≠ 0 := by decide
    unfold Larder8.numV
    rw [if_neg (fun h => this h.1)]
    rfl
  obtain ⟨c, hcc⟩ : ∃ c, c = T.getD 0 0 := ⟨_, rfl⟩
  rw [← hcc] at c0 E
  by_cases q1 : lo < 0
  · have f1 : decide (lo < 0) = true := decide_eq_true q1
    by_cases q2 : n = 1
    · have f2 : ((n : Int) == 1) = true := by rw [beq_iff_eq]; omega
      by_cases q3 : c = 45
      · have E2 : Larder8.begunP lo hi T = true := by rw [E, if_pos ⟨q2, q3, q1⟩]
        rw [E2]
        subst q3
        clear hB hs hn E E2 V45 hcc hc CW
        subst q2
        go_enter Tryz.func93, Tryz.ntmps93
        go_wp2_with fail
        go_ret
        exact ⟨rfl, rfl⟩
      · have E2 : Larder8.begunP lo hi T = (Larder8.numV lo hi T).isSome := by
          rw [E, if_neg (fun e => q3 e.2.1), if_neg (fun e => q3 (by rw [hcc, e]; rfl))]
        rw [E2]
        have n45 : ((c : Int) == 45) = false := by rw [beq_eq_false_iff_ne]; omega
        have m45 : (c == 45) = false := by rw [beq_eq_false_iff_ne]; exact q3
        obtain ⟨R, hR⟩ : ∃ R, R = (Larder8.numV lo hi T).isSome := ⟨_, rfl⟩
        rw [← hR] at CW ⊢
        clear hB hs hn E E2 V45 hcc hc hR f2 z0
        subst q2
        go_enter Tryz.func93, Tryz.ntmps93
        go_wp2_with (go_at_call 94; with_reducible refine (unhide CW).mono ?_; rintro e w5 ⟨rfl, h5⟩; subst h5)
        go_ret
        exact ⟨rfl, rfl⟩
    · have f2 : ((n : Int) == 1) = false := by rw [beq_eq_false_iff_ne]; omega
      have E2 : Larder8.begunP lo hi T = (Larder8.numV lo hi T).isSome := by
        rw [E, if_neg (fun e => q2 e.1), if_neg (fun e => q2 (by rw [hn, e]; rfl))]
      rw [E2]
      obtain ⟨R, hR⟩ : ∃ R, R = (Larder8.numV lo hi T).isSome := ⟨_, rfl⟩
      rw [← hR] at CW ⊢
      clear hB hs hn E E2 V45 hcc hc hR
      go_enter Tryz.func93, Tryz.ntmps93
      go_wp2_with (go_at_call 94; with_reducible refine (unhide CW).mono ?_; rintro e w5 ⟨rfl, h5⟩; subst h5)
      go_ret
      exact ⟨rfl, rfl⟩
  · have f1 : decide (lo < 0) = false := decide_eq_false q1
    have E2 : Larder8.begunP lo hi T = (Larder8.numV lo hi T).isSome := by
      rw [E, if_neg (fun e => q1 e.2.2)]
      by_cases hm : T = [45]
      · rw [if_pos hm, V45 hm q1]; exact f1
      · rw [if_neg hm]
    rw [E2]
    obtain ⟨R, hR⟩ : ∃ R, R = (Larder8.numV lo hi T).isSome := ⟨_, rfl⟩
    rw [← hR] at CW ⊢
    clear hB hs hn E E2 V45 hcc hc hR
    go_enter Tryz.func93, Tryz.ntmps93
    go_wp2_with (go_at_call 94; with_reducible refine (unhide CW).mono ?_; rintro e w5 ⟨rfl, h5⟩; subst h5)
    go_ret
    exact ⟨rfl, rfl⟩
end Go.Proofs.YtecfgbjnjgjkoaaGreatDoor
namespace Go.Proofs.YtecfgbjnjgjkoaaGreatDoor
open Go.ChangeShapes Go.WideShapes Go.ChangeAt Go.RowKit
set_option linter.unusedVariables false
set_option linter.unusedSimpArgs false
set_option maxRecDepth 20000
set_option maxHeartbeats 20000000

theorem numV_short {lo hi : Int} {T : List Nat} (h : (Larder8.numV lo hi T).isSome = true) : T.length ≤ 21 := by
  unfold Larder8.numV at h
  split at h
  · rename_i hc
    obtain ⟨s1, s2, s3, -⟩ := Larder.int_back T hc.1
    have := spell_short (Larder.intRes T).1 s2 s3
    rw [s1] at this
    omega
  · cases h
/-- how a part stands, as the document tells it -/
def StD {α : Type} (P : Larder8.St α) (st : Int) : Prop := match P with | .ok _ _ => st = 0 | .short => st = 1 | .wrong => st = 2 ∨ st = 3
def NumD (P : Larder8.St Int) (n : Nat) (v m st : Int) : Prop := StD P st ∧ ∀ x r, P = .ok x r → v = x ∧ m = (n : Int) - (r.length : Int)
theorem numP_far {lo hi : Int} {T : List Nat} (h : ∀ j, j < 32 → T.getD j 0 ≠ 13) (hl : 32 < T.length) : Larder8.numP lo hi T = .wrong := by
  unfold Larder8.numP
  cases hc : Larder8.crAt T with
  | none =>
    simp only
    rw [if_neg]
    intro hb
    unfold Larder8.begunP at hb
    rw [if_neg (fun e => by rw [e] at hl; simp at hl), if_neg (fun e => by rw [e] at hl; simp at hl)] at hb
    have := numV_short hb
    omega
  | some k =>
    simp only
    obtain ⟨h1, h2, h3⟩ := Larder8.crAt_lt T k hc
    have hk : 32 ≤ k := by
      rcases Nat.lt_or_ge k 32 with q | q
      · exact absurd h2 (h k q)
      · exact q
    cases hn : Larder8.numV lo hi (T.take k) with
    | none => rfl
    | some n =>
      exfalso
      have := numV_short (lo := lo) (hi := hi) (T := T.take k) (by rw [hn]; rfl)
      rw [List.length_take] at this
      omega
theorem drop_two {T : List Nat} {i : Nat} (h : i + 1 < T.length) : T.drop i = T.getD i 0 :: T.getD (i + 1) 0 :: T.drop (i + 2) := by
  rw [drop_at' (by omega), drop_at' h]
theorem rnumber_any (w : World) (a : Option Addr) (n cp : Nat) (T : List Nat) (lo up : Int) (hn : n = T.length) (hB : Bytes w a T) (hs : Small T) (hc : n ≤ cp) (hl : n ≤ 1073741824) :
    Calls Tryz.prog 71 #[.slice a n cp, .int .i64 lo, .int .i64 up] w fun e w' => ∃ v m st : Int, e = .returned (.tuple #[.int .i64 v, .int .i64 m, .int .i64 st]) ∧ Hid (NumD (Larder8.numP lo up T) n v m st ∧ Below w.heap.size w w') := by
  have HN := hide hn
  have CB : Hid (∀ W, Below w.heap.size w W → Calls Tryz.prog 93 #[.slice a n cp, .int .i64 lo, .int .i64 up] W fun e w' => e = .returned (.bool (Larder8.begunP lo up T)) ∧ W = w') := hide (fun W hW => rbegin_any W a n cp T lo up hn (hB.below hW) hs (by omega))
  have CW : Hid (∀ W i, Below w.heap.size w W → i ≤ n → Calls Tryz.prog 94 #[.slice a i cp, .int .i64 lo, .int .i64 up] W fun e w' => e = .returned (.bool (Larder8.numV lo up (T.take i)).isSome) ∧ W = w') := hide (fun W i hW hi => rwithin_any W a i cp (T.take i) lo up (by rw [List.length_take]; omega) ((hB.below hW).first i) (hs.take i) (by omega))
  have CI : Hid (∀ W i, Below w.heap.size w W → i ≤ n → Calls Tryz.prog 95 #[.slice a i cp] W fun e w' => e = .returned (.tuple #[.int .i64 (Larder.intRes (T.take i)).1, .int .i64 ((Larder.intRes (T.take i)).2 : Nat)]) ∧ W = w') := hide (fun W i hW hi => by
    have h := rint_any a cp W (T.take i) (by rw [List.length_take]; omega) (hs.take i) ((hB.below hW).first i)
    rw [show (T.take i).length = i by rw [List.length_take]; omega] at h
    exact h.mono (fun e w' h => ⟨h.1, h.2.symm⟩))
  have HC : Hid (∀ k, k < n → ∃ b off, a = some ⟨b, off, none⟩ ∧ ∀ W, Below w.heap.size w W → ∀ k, k < n → W.cell? ⟨b, off + k, none⟩ = some (.int .u8 (T.getD k 0 : Nat))) := hide (fun k hk => by
    rcases hB with h | ⟨b, off, e, hb, hcell⟩
    · rw [h] at hn; simp at hn; omega
    · exact ⟨b, off, e, fun W hW k hk => by rw [hW.cell (show b < _ from hb)]; exact hcell k (by omega)⟩)
  clear hn hB hs
  go_enter Tryz.func71, Tryz.ntmps71
  go_wp2_with fail
  go_loopw [9] (fun iv wr => ∃ i : Nat, iv = .int .i64 (i : Nat) ∧ i ≤ n ∧ i ≤ 32 ∧ Hid (Below w.heap.size w wr ∧ ∀ j, j < i → T.getD j 0 ≠ 13)) (fun iv _ => n - (intOf iv).toNat)
  case atStart => exact ⟨0, rfl, Nat.zero_le _, Nat.zero_le _, hide ⟨Below.refl _ _, fun j hj => by omega⟩⟩
  case round =>
    obtain ⟨i, rfl, hi, hi2, HB⟩ := hrel
    rename World => wr
    rcases Nat.lt_or_ge i n with hlt | hge
    · have f1 : decide ((i : Int) < (n : Int)) = true := decide_eq_true (by omega)
      have g1 : (0 : Int) ≤ (i : Int) := by omega
      have g2 : (i : Int) < (n : Int) := by omega
      obtain ⟨b, off, rfl, hcell⟩ := unhide HC i hlt
      have ci := hcell wr (unhide HB).1 i hlt
      have z0 : ((i : Int) == (n : Int)) = false := by rw [beq_eq_false_iff_ne]; omega
      have z0' : (i == n) = false := by rw [beq_eq_false_iff_ne]; omega
      have HCE := hide hcell
      clear hcell HC
      obtain ⟨c, hcc⟩ : ∃ c, c = T.getD i 0 := ⟨_, rfl⟩
      rw [← hcc] at ci
      have HCC := hide hcc
      clear hcc
      rcases Nat.lt_or_ge i 32 with h32 | h32
      · have f2 : decide ((i : Int) < 32) = true := decide_eq_true (by omega)
        by_cases q : c = 13
        · subst q
          have HCR : Hid (Larder8.crAt T = some i) := hide (Larder8.crAt_is T i (by have := unhide HN; omega) (unhide HCC).symm (unhide HB).2)
          have CWi := hide (unhide CW wr i (unhide HB).1 hi)
          have CIi := hide (unhide CI wr i (unhide HB).1 hi)
          have g3 : (i : Int) ≤ (cp : Int) := by omega
          cases hv : Larder8.numV lo up (T.take i) with
          | none =>
            rw [hv] at CWi
            have E : Hid (Larder8.numP lo up T = .wrong) := hide (by unfold Larder8.numP; rw [unhide HCR]; simp only; rw [hv])
            clear hv
            go_wp2_with (go_at_call 94; with_reducible refine (unhide CWi).mono ?_; rintro e w5 ⟨rfl, h5⟩; subst h5; simp only [Option.isSome_none])
            go_ret3
            exact ⟨0, 0, 2, rfl, hide ⟨⟨by rw [unhide E]; exact .inl rfl, fun x r e => by rw [unhide E] at e; cases e⟩, (unhide HB).1⟩⟩
          | some v =>
            rw [hv] at CWi
            have HV : Hid (Larder8.numV lo up (T.take i) = some v) := hide hv
            have HEN : Hid (Larder8.numP lo up T = (Larder8.endP (T.drop i)).map (fun _ => v)) := hide (by unfold Larder8.numP; rw [unhide HCR]; simp only; rw [hv])
            clear hv
            by_cases q1 : i + 1 = n
            · have y1 : ((i : Int) + 1 == (n : Int)) = true := by rw [beq_iff_eq]; omega
              have E : Hid (Larder8.numP lo up T = .short) := hide (by
                have hT := unhide HN
                rw [unhide HEN, drop_at' (by omega), ← unhide HCC, List.drop_eq_nil_of_le (by omega)]
                rfl)
              go_wp2_with (go_at_call 94; with_reducible refine (unhide CWi).mono ?_; rintro e w5 ⟨rfl, h5⟩; subst h5; simp only [Option.isSome_some])
              go_ret3
              exact ⟨0, 0, 1, rfl, hide ⟨⟨by rw [unhide E]; rfl, fun x r e => by rw [unhide E] at e; cases e⟩, (unhide HB).1⟩⟩
            · have y1 : ((i : Int) + 1 == (n : Int)) = false := by rw [beq_eq_false_iff_ne]; omega
              have g4 : (0 : Int) ≤ (i : Int) + 1 := by omega
              have g5 : (i : Int) + 1 < (n : Int) := by omega
              have c2 := unhide HCE wr (unhide HB).1 (i + 1) (by omega)
              obtain ⟨e2, he2⟩ : ∃ e2, e2 = T.getD (i + 1) 0 := ⟨_, rfl⟩
              rw [← he2] at c2
              have HE2 := hide he2
              clear he2
              have HDR : Hid (T.drop i = 13 :: e2 :: T.drop (i + 2)) := hide (by rw [drop_two (by have := unhide HN; omega), ← unhide HCC, ← unhide HE2])
              by_cases q2 : e2 = 10
              · subst q2
                have E : Hid (Larder8.numP lo up T = .ok v (T.drop (i + 2))) := hide (by rw [unhide HEN, unhide HDR]; rfl)
                have HI : Hid ((Larder.intRes (T.take i)).1 = v) := hide (by
                  have h := unhide HV
                  unfold Larder8.numV at h
                  split at h
                  · exact Option.some.inj h
                  · cases h)
                go_wp2_with (first
                  | (go_at_call 94; with_reducible refine (unhide CWi).mono ?_; rintro e w5 ⟨rfl, h5⟩; subst h5; simp only [Option.isSome_some])
                  | (go_at_call 95; with_reducible refine (unhide CIi).mono ?_; rintro e w6 ⟨rfl, h6⟩; subst h6))
                go_ret3
                refine ⟨_, _, _, rfl, hide ⟨⟨by rw [unhide E]; rfl, fun x r e => ?_⟩, (unhide HB).1⟩⟩
                rw [unhide E] at e
                cases e
                have hT := unhide HN
                exact ⟨unhide HI, by rw [List.length_drop]; omega⟩
              · have x10 : ((e2 : Int) != 10) = true := by rw [bne_iff_ne]; omega
                have x10' : ((e2 : Int) == 10) = false := by rw [beq_eq_false_iff_ne]; omega
                have E : Hid (Larder8.numP lo up T = .wrong) := hide (by
                  rw [unhide HEN, unhide HDR, show Larder8.endP (13 :: e2 :: T.drop (i + 2)) = .wrong by simp only [Larder8.endP]; rw [if_neg (fun h => q2 h.2)]]
                  rfl)
                go_wp2_with (go_at_call 94; with_reducible refine (unhide CWi).mono ?_; rintro e w5 ⟨rfl, h5⟩; subst h5; simp only [Option.isSome_some])
                go_ret3
                exact ⟨0, 0, 3, rfl, hide ⟨⟨by rw [unhide E]; exact .inr rfl, fun x r e => by rw [unhide E] at e; cases e⟩, (unhide HB).1⟩⟩
        · have x13 : ((c : Int) != 13) = true := by rw [bne_iff_ne]; omega
          have e13 : ((c : Int) == 13) = false := by rw [beq_eq_false_iff_ne]; omega
          go_wp2_with fail
          go_roundw
          case rel => exact ⟨i + 1, rfl, by omega, by omega, hide ⟨(unhide HB).1, fun j hj => by
            rcases Nat.lt_or_ge j i with q2 | q2
            · exact (unhide HB).2 j q2
            · obtain rfl : j = i := by omega
              rw [← unhide HCC]; exact q⟩⟩
          case measure => simp [intOf]; omega
      · have f2 : decide ((i : Int) < 32) = false := decide_eq_false (by omega)
        have HW : Hid (c ≠ 13 → Larder8.numP lo up T = .wrong) := hide (fun hc => numP_far (fun j hj => (unhide HB).2 j (by omega)) (by have := unhide HN; omega))
        by_cases q : c = 13
        · subst q
          have HCR : Hid (Larder8.crAt T = some i) := hide (Larder8.crAt_is T i (by have := unhide HN; omega) (unhide HCC).symm (unhide HB).2)
          have CWi := hide (unhide CW wr i (unhide HB).1 hi)
          have CIi := hide (unhide CI wr i (unhide HB).1 hi)
          have g3 : (i : Int) ≤ (cp : Int) := by omega
          cases hv : Larder8.numV lo up (T.take i) with
          | none =>
            rw [hv] at CWi
            have E : Hid (Larder8.numP lo up T = .wrong) := hide (by unfold Larder8.numP; rw [unhide HCR]; simp only; rw [hv])
            clear hv
            go_wp2_with (go_at_call 94; with_reducible refine (unhide CWi).mono ?_; rintro e w5 ⟨rfl, h5⟩; subst h5; simp only [Option.isSome_none])
            go_ret3
            exact ⟨0, 0, 2, rfl, hide ⟨⟨by rw [unhide E]; exact .inl rfl, fun x r e => by rw [unhide E] at e; cases e⟩, (unhide HB).1⟩⟩
          | some v =>
            rw [hv] at CWi
            have HV : Hid (Larder8.numV lo up (T.take i) = some v) := hide hv
            have HEN : Hid (Larder8.numP lo up T = (Larder8.endP (T.drop i)).map (fun _ => v)) := hide (by unfold Larder8.numP; rw [unhide HCR]; simp only; rw [hv])
            clear hv
            by_cases q1 : i + 1 = n
            · have y1 : ((i : Int) + 1 == (n : Int)) = true := by rw [beq_iff_eq]; omega
              have E : Hid (Larder8.numP lo up T = .short) := hide (by
                have hT := unhide HN
                rw [unhide HEN, drop_at' (by omega), ← unhide HCC, List.drop_eq_nil_of_le (by omega)]
                rfl)
              go_wp2_with (go_at_call 94; with_reducible refine (unhide CWi).mono ?_; rintro e w5 ⟨rfl, h5⟩; subst h5; simp only [Option.isSome_some])
              go_ret3
              exact ⟨0, 0, 1, rfl, hide ⟨⟨by rw [unhide E]; rfl, fun x r e => by rw [unhide E] at e; cases e⟩, (unhide HB).1⟩⟩
            · have y1 : ((i : Int) + 1 == (n : Int)) = false := by rw [beq_eq_false_iff_ne]; omega
              have g4 : (0 : Int) ≤ (i : Int) + 1 := by omega
              have g5 : (i : Int) + 1 < (n : Int) := by omega
              have c2 := unhide HCE wr (unhide HB).1 (i + 1) (by omega)
              obtain ⟨e2, he2⟩ : ∃ e2, e2 = T.getD (i + 1) 0 := ⟨_, rfl⟩
              rw [← he2] at c2
              have HE2 := hide he2
              clear he2
              have HDR : Hid (T.drop i = 13 :: e2 :: T.drop (i + 2)) := hide (by rw [drop_two (by have := unhide HN; omega), ← unhide HCC, ← unhide HE2])
              by_cases q2 : e2 = 10
              · subst q2
                have E : Hid (Larder8.numP lo up T = .ok v (T.drop (i + 2))) := hide (by rw [unhide HEN, unhide HDR]; rfl)
                have HI : Hid ((Larder.intRes (T.take i)).1 = v) := hide (by
                  have h := unhide HV
                  unfold Larder8.numV at h
                  split at h
                  · exact Option.some.inj h
                  · cases h)
                go_wp2_with (first
                  | (go_at_call 94; with_reducible refine (unhide CWi).mono ?_; rintro e w5 ⟨rfl, h5⟩; subst h5; simp only [Option.isSome_some])
                  | (go_at_call 95; with_reducible refine (unhide CIi).mono ?_; rintro e w6 ⟨rfl, h6⟩; subst h6))
                go_ret3
                refine ⟨_, _, _, rfl, hide ⟨⟨by rw [unhide E]; rfl, fun x r e => ?_⟩, (unhide HB).1⟩⟩
                rw [unhide E] at e
                cases e
                have hT := unhide HN
                exact ⟨unhide HI, by rw [List.length_drop]; omega⟩
              · have x10 : ((e2 : Int) != 10) = true := by rw [bne_iff_ne]; omega
                have x10' : ((e2 : Int) == 10) = false := by rw [beq_eq_false_iff_ne]; omega
                have E : Hid (Larder8.numP lo up T = .wrong) := hide (by
                  rw [unhide HEN, unhide HDR, show Larder8.endP (13 :: e2 :: T.drop (i + 2)) = .wrong by simp only [Larder8.endP]; rw [if_neg (fun h => q2 h.2)]]
                  rfl)
                go_wp2_with (go_at_call 94; with_reducible refine (unhide CWi).mono ?_; rintro e w5 ⟨rfl, h5⟩; subst h5; simp only [Option.isSome_some])
                go_ret3
                exact ⟨0, 0, 3, rfl, hide ⟨⟨by rw [unhide E]; exact .inr rfl, fun x r e => by rw [unhide E] at e; cases e⟩, (unhide HB).1⟩⟩
        · have x13 : ((c : Int) != 13) = true := by rw [bne_iff_ne]; omega
          have e13 : ((c : Int) == 13) = false := by rw [beq_eq_false_iff_ne]; omega
          have E := hide (unhide HW q)
          go_wp2_with fail
          go_ret3
          exact ⟨0, 0, 2, rfl, hide ⟨⟨by rw [unhide E]; exact .inl rfl, fun x r e => by rw [unhide E] at e; cases e⟩, (unhide HB).1⟩⟩
    · obtain rfl : i = n := by omega
      have f1 : decide ((i : Int) < (i : Int)) = false := decide_eq_false (by omega)
      have HNC : Hid (Larder8.crAt T = none) := hide (Larder8.crAt_no T (fun j hj => (unhide HB).2 j (by have := unhide HN; omega)))
      have CBi := hide (unhide CB wr (unhide HB).1)
      cases hb : Larder8.begunP lo up T with
      | true =>
        rw [hb] at CBi
        have E : Hid (Larder8.numP lo up T = .short) := hide (by unfold Larder8.numP; rw [unhide HNC]; simp only; rw [hb]; rfl)
        clear hb
        go_wp2_with (go_at_call 93; with_reducible refine (unhide CBi).mono ?_; rintro e w5 ⟨rfl, h5⟩; subst h5)
        go_ret3
        exact ⟨0, 0, 1, rfl, hide ⟨⟨by rw [unhide E]; rfl, fun x r e => by rw [unhide E] at e; cases e⟩, (unhide HB).1⟩⟩
      | false =>
        rw [hb] at CBi
        have E : Hid (Larder8.numP lo up T = .wrong) := hide (by unfold Larder8.numP; rw [unhide HNC]; simp only; rw [hb]; rfl)
        clear hb
        go_wp2_with (go_at_call 93; with_reducible refine (unhide CBi).mono ?_; rintro e w5 ⟨rfl, h5⟩; subst h5)
        go_ret3
        exact ⟨0, 0, 2, rfl, hide ⟨⟨by rw [unhide E]; exact .inl rfl, fun x r e => by rw [unhide E] at e; cases e⟩, (unhide HB).1⟩⟩
end Go.Proofs.YtecfgbjnjgjkoaaGreatDoor
