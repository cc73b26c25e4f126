/- Line of the document: hexadecimal digits, letters behind a backslash. -/
import Derived.Test.YtecfgbjnjgjkoaaGreatDoorLis
namespace Go.Proofs.YtecfgbjnjgjkoaaGreatDoor
open Go.ChangeShapes Go.WideShapes Go.ChangeAt Go.RowKit
set_option linter.unusedVariables false
set_option linter.unusedSimpArgs false
set_option maxRecDepth 20000
set_option maxHeartbeats 4000000

def hxL : List Nat := [48, 49, 50, 51, 52, 53, 54, 55, 56, 57, 97, 98, 99, 100, 101, 102, 48, 49, 50, 51, 52, 53, 54, 55, 56, 57, 65, 66, 67, 68, 69, 70]
def hxV : Option Nat → Int
  | some k => (k : Nat)
  | none => -1
theorem hx_none (c : Nat) (h : ∀ j, j < 32 → hxL.getD j 0 ≠ c) : Larder8.hexV c = none := by
  have a0 := h 0 (by decide); have a1 := h 1 (by decide); have a2 := h 2 (by decide); have a3 := h 3 (by decide); have a4 := h 4 (by decide); have a5 := h 5 (by decide); have a6 := h 6 (by decide); have a7 := h 7 (by decide)
  have a8 := h 8 (by decide); have a9 := h 9 (by decide); have b0 := h 10 (by decide); have b1 := h 11 (by decide); have b2 := h 12 (by decide); have b3 := h 13 (by decide); have b4 := h 14 (by decide); have b5 := h 15 (by decide)
  have d0 := h 26 (by decide); have d1 := h 27 (by decide); have d2 := h 28 (by decide); have d3 := h 29 (by decide); have d4 := h 30 (by decide); have d5 := h 31 (by decide)
  simp only [hxL, List.getD_eq_getElem?_getD] at *
  simp at *
  unfold Larder8.hexV
  rw [if_neg (by omega), if_neg (by omega), if_neg (by omega)]
theorem hx_more (c i : Nat) (h : ∀ j, j < i → hxL.getD j 0 ≠ c) (hi : hxL.getD i 0 ≠ c) : ∀ j, j < i + 1 → hxL.getD j 0 ≠ c := fun j hj => by
  rcases Nat.lt_or_ge j i with q | q
  · exact h j q
  · obtain rfl : j = i := by omega
    exact hi
theorem rhex_any (w : World) (c : Nat) : Calls Tryz.prog 86 #[.int .u8 (c : Nat)] w fun e w' => e = .returned (.int .i64 (hxV (Larder8.hexV c))) ∧ w' = w := by
  obtain ⟨R, hR⟩ : ∃ R, R = hxV (Larder8.hexV c) := ⟨_, rfl⟩
  rw [← hR]
  have HR := hide hR
  clear hR
  go_enter Tryz.func86, Tryz.ntmps86
  go_wp2
  go_loopw [3] (fun iv wr => ∃ i : Nat, iv = .int .i64 (i : Nat) ∧ i ≤ 32 ∧ Hid (∀ j, j < i → hxL.getD j 0 ≠ c) ∧ Hid (wr = w)) (fun iv _ => 32 - (intOf iv).toNat)
  case atStart => exact ⟨0, rfl, by omega, hide (fun j hj => by omega), hide rfl⟩
  case round =>
    obtain ⟨i, rfl, hi, hall, hw⟩ := hrel
    obtain rfl := (unhide hw).symm
    clear hw
    by_cases h32 : i = 32
    · subst h32
      go_wp2
      go_ret
      refine ⟨?_, rfl⟩
      rw [unhide HR, hx_none c (unhide hall)]
      rfl
    · have h : i = 0 ∨ i = 1 ∨ i = 2 ∨ i = 3 ∨ i = 4 ∨ i = 5 ∨ i = 6 ∨ i = 7 ∨ i = 8 ∨ i = 9 ∨ i = 10 ∨ i = 11 ∨ i = 12 ∨ i = 13 ∨ i = 14 ∨ i = 15 ∨ i = 16 ∨ i = 17 ∨ i = 18 ∨ i = 19 ∨ i = 20 ∨ i = 21 ∨ i = 22 ∨ i = 23 ∨ i = 24 ∨ i = 25 ∨ i = 26 ∨ i = 27 ∨ i = 28 ∨ i = 29 ∨ i = 30 ∨ i = 31 := by omega
      have HM := hide (hx_more c i (unhide hall))
      clear hi h32 hall
      obtain ⟨d, hd⟩ : ∃ d, d = hxL.getD i 0 := ⟨_, rfl⟩
      rw [← hd] at HM
      rcases h with rfl | rfl | rfl | rfl | rfl | rfl | rfl | rfl | rfl | rfl | rfl | rfl | rfl | rfl | rfl | rfl | rfl | rfl | rfl | rfl | rfl | rfl | rfl | rfl | rfl | rfl | rfl | rfl | rfl | rfl | rfl | rfl
      · have hd' : d = 48 := hd
        clear hd
        by_cases hc : c = 48
        · subst hc
          clear HM hd'
          go_wp2
          go_ret
          refine ⟨?_, rfl⟩
          rw [unhide HR]
          rfl
        · have HM2 := hide (unhide HM (by rw [hd']; exact fun e => hc e.symm))
          have t1 : ((((⟨#[48, 49, 50, 51, 52, 53, 54, 55, 56, 57, 97, 98, 99, 100, 101, 102, 48, 49, 50, 51, 52, 53, 54, 55, 56, 57, 65, 66, 67, 68, 69, 70]⟩ : ByteArray)[0]'(by decide)).toNat : Int) == (c : Int)) = false := by
            show ((48 : Int) == (c : Int)) = false
            rw [beq_eq_false_iff_ne]; omega
          clear HM hd'
          go_wp2
          go_roundw
          case rel => exact ⟨1, rfl, by omega, hide (unhide HM2), hide (by first | rfl | trivial)⟩
          case measure => simp [intOf]
      · have hd' : d = 49 := hd
        clear hd
        by_cases hc : c = 49
        · subst hc
          clear HM hd'
          go_wp2
          go_ret
          refine ⟨?_, rfl⟩
          rw [unhide HR]
          rfl
        · have HM2 := hide (unhide HM (by rw [hd']; exact fun e => hc e.symm))
          have t1 : ((((⟨#[48, 49, 50, 51, 52, 53, 54, 55, 56, 57, 97, 98, 99, 100, 101, 102, 48, 49, 50, 51, 52, 53, 54, 55, 56, 57, 65, 66, 67, 68, 69, 70]⟩ : ByteArray)[1]'(by decide)).toNat : Int) == (c : Int)) = false := by
            show ((49 : Int) == (c : Int)) = false
            rw [beq_eq_false_iff_ne]; omega
          clear HM hd'
          go_wp2
          go_roundw
          case rel => exact ⟨2, rfl, by omega, hide (unhide HM2), hide (by first | rfl | trivial)⟩
          case measure => simp [intOf]
      · have hd' : d = 50 := hd
        clear hd
        by_cases hc : c = 50
        · subst hc
          clear HM hd'
          go_wp2
          go_ret
          refine ⟨?_, rfl⟩
          rw [unhide HR]
          rfl
        · have HM2 := hide (unhide HM (by rw [hd']; exact fun e => hc e.symm))
          have t1 : ((((⟨#[48, 49, 50, 51, 52, 53, 54, 55, 56, 57, 97, 98, 99, 100, 101, 102, 48, 49, 50, 51, 52, 53, 54, 55, 56, 57, 65, 66, 67, 68, 69, 70]⟩ : ByteArray)[2]'(by decide)).toNat : Int) == (c : Int)) = false := by
            show ((50 : Int) == (c : Int)) = false
            rw [beq_eq_false_iff_ne]; omega
          clear HM hd'
          go_wp2
          go_roundw
          case rel => exact ⟨3, rfl, by omega, hide (unhide HM2), hide (by first | rfl | trivial)⟩
          case measure => simp [intOf]
      · have hd' : d = 51 := hd
        clear hd
        by_cases hc : c = 51
        · subst hc
          clear HM hd'
          go_wp2
          go_ret
          refine ⟨?_, rfl⟩
          rw [unhide HR]
          rfl
        · have HM2 := hide (unhide HM (by rw [hd']; exact fun e => hc e.symm))
          have t1 : ((((⟨#[48, 49, 50, 51, 52, 53, 54, 55, 56, 57, 97, 98, 99, 100, 101, 102, 48, 49, 50, 51, 52, 53, 54, 55, 56, 57, 65, 66, 67, 68, 69, 70]⟩ : ByteArray)[3]'(by decide)).toNat : Int) == (c : Int)) = false := by
            show ((51 : Int) == (c : Int)) = false
            rw [beq_eq_false_iff_ne]; omega
          clear HM hd'
          go_wp2
          go_roundw
          case rel => exact ⟨4, rfl, by omega, hide (unhide HM2), hide (by first | rfl | trivial)⟩
          case measure => simp [intOf]
      · have hd' : d = 52 := hd
        clear hd
        by_cases hc : c = 52
        · subst hc
          clear HM hd'
          go_wp2
          go_ret
          refine ⟨?_, rfl⟩
          rw [unhide HR]
          rfl
        · have HM2 := hide (unhide HM (by rw [hd']; exact fun e => hc e.symm))
          have t1 : ((((⟨#[48, 49, 50, 51, 52, 53, 54, 55, 56, 57, 97, 98, 99, 100, 101, 102, 48, 49, 50, 51, 52, 53, 54, 55, 56, 57, 65, 66, 67, 68, 69, 70]⟩ : ByteArray)[4]'(by decide)).toNat : Int) == (c : Int)) = false := by
            show ((52 : Int) == (c : Int)) = false
            rw [beq_eq_false_iff_ne]; omega
          clear HM hd'
          go_wp2
          go_roundw
          case rel => exact ⟨5, rfl, by omega, hide (unhide HM2), hide (by first | rfl | trivial)⟩
          case measure => simp [intOf]
      · have hd' : d = 53 := hd
        clear hd
        by_cases hc : c = 53
        · subst hc
          clear HM hd'
          go_wp2
          go_ret
          refine ⟨?_, rfl⟩
          rw [unhide HR]
          rfl
        · have HM2 := hide (unhide HM (by rw [hd']; exact fun e => hc e.symm))
          have t1 : ((((⟨#[48, 49, 50, 51, 52, 53, 54, 55, 56, 57, 97, 98, 99, 100, 101, 102, 48, 49, 50, 51, 52, 53, 54, 55, 56, 57, 65, 66, 67, 68, 69, 70]⟩ : ByteArray)[5]'(by decide)).toNat : Int) == (c : Int)) = false := by
            show ((53 : Int) == (c : Int)) = false
            rw [beq_eq_false_iff_ne]; omega
          clear HM hd'
          go_wp2
          go_roundw
          case rel => exact ⟨6, rfl, by omega, hide (unhide HM2), hide (by first | rfl | trivial)⟩
          case measure => simp [intOf]
      · have hd' : d = 54 := hd
        clear hd
        by_cases hc : c = 54
        · subst hc
          clear HM hd'
          go_wp2
          go_ret
          refine ⟨?_, rfl⟩
          rw [unhide HR]
          rfl
        · have HM2 := hide (unhide HM (by rw [hd']; exact fun e => hc e.symm))
          have t1 : ((((⟨#[48, 49, 50, 51, 52, 53, 54, 55, 56, 57, 97, 98, 99, 100, 101, 102, 48, 49, 50, 51, 52, 53, 54, 55, 56, 57, 65, 66, 67, 68, 69, 70]⟩ : ByteArray)[6]'(by decide)).toNat : Int) == (c : Int)) = false := by
            show ((54 : Int) == (c : Int)) = false
            rw [beq_eq_false_iff_ne]; omega
          clear HM hd'
          go_wp2
          go_roundw
          case rel => exact ⟨7, rfl, by omega, hide (unhide HM2), hide (by first | rfl | trivial)⟩
          case measure => simp [intOf]
      · have hd' : d = 55 := hd
        clear hd
        by_cases hc : c = 55
        · subst hc
          clear HM hd'
          go_wp2
          go_ret
          refine ⟨?_, rfl⟩
          rw [unhide HR]
          rfl
        · have HM2 := hide (unhide HM (by rw [hd']; exact fun e => hc e.symm))
          have t1 : ((((⟨#[48, 49, 50, 51, 52, 53, 54, 55, 56, 57, 97, 98, 99, 100, 101, 102, 48, 49, 50, 51, 52, 53, 54, 55, 56, 57, 65, 66, 67, 68, 69, 70]⟩ : ByteArray)[7]'(by decide)).toNat : Int) == (c : Int)) = false := by
            show ((55 : Int) == (c : Int)) = false
            rw [beq_eq_false_iff_ne]; omega
          clear HM hd'
          go_wp2
          go_roundw
          case rel => exact ⟨8, rfl, by omega, hide (unhide HM2), hide (by first | rfl | trivial)⟩
          case measure => simp [intOf]
      · have hd' : d = 56 := hd
        clear hd
        by_cases hc : c = 56
        · subst hc
          clear HM hd'
          go_wp2
          go_ret
          refine ⟨?_, rfl⟩
          rw [unhide HR]
          rfl
        · have HM2 := hide (unhide HM (by rw [hd']; exact fun e => hc e.symm))
          have t1 : ((((⟨#[48, 49, 50, 51, 52, 53, 54, 55, 56, 57, 97, 98, 99, 100, 101, 102, 48, 49, 50, 51, 52, 53, 54, 55, 56, 57, 65, 66, 67, 68, 69, 70]⟩ : ByteArray)[8]'(by decide)).toNat : Int) == (c : Int)) = false := by
            show ((56 : Int) == (c : Int)) = false
            rw [beq_eq_false_iff_ne]; omega
          clear HM hd'
          go_wp2
          go_roundw
          case rel => exact ⟨9, rfl, by omega, hide (unhide HM2), hide (by first | rfl | trivial)⟩
          case measure => simp [intOf]
      · have hd' : d = 57 := hd
        clear hd
        by_cases hc : c = 57
        · subst hc
          clear HM hd'
          go_wp2
          go_ret
          refine ⟨?_, rfl⟩
          rw [unhide HR]
          rfl
        · have HM2 := hide (unhide HM (by rw [hd']; exact fun e => hc e.symm))
          have t1 : ((((⟨#[48, 49, 50, 51, 52, 53, 54, 55, 56, 57, 97, 98, 99, 100, 101, 102, 48, 49, 50, 51, 52, 53, 54, 55, 56, 57, 65, 66, 67, 68, 69, 70]⟩ : ByteArray)[9]'(by decide)).toNat : Int) == (c : Int)) = false := by
            show ((57 : Int) == (c : Int)) = false
            rw [beq_eq_false_iff_ne]; omega
          clear HM hd'
          go_wp2
          go_roundw
          case rel => exact ⟨10, rfl, by omega, hide (unhide HM2), hide (by first | rfl | trivial)⟩
          case measure => simp [intOf]
      · have hd' : d = 97 := hd
        clear hd
        by_cases hc : c = 97
        · subst hc
          clear HM hd'
          go_wp2
          go_ret
          refine ⟨?_, rfl⟩
          rw [unhide HR]
          rfl
        · have HM2 := hide (unhide HM (by rw [hd']; exact fun e => hc e.symm))
          have t1 : ((((⟨#[48, 49, 50, 51, 52, 53, 54, 55, 56, 57, 97, 98, 99, 100, 101, 102, 48, 49, 50, 51, 52, 53, 54, 55, 56, 57, 65, 66, 67, 68, 69, 70]⟩ : ByteArray)[10]'(by decide)).toNat : Int) == (c : Int)) = false := by
            show ((97 : Int) == (c : Int)) = false
            rw [beq_eq_false_iff_ne]; omega
          clear HM hd'
          go_wp2
          go_roundw
          case rel => exact ⟨11, rfl, by omega, hide (unhide HM2), hide (by first | rfl | trivial)⟩
          case measure => simp [intOf]
      · have hd' : d = 98 := hd
        clear hd
        by_cases hc : c = 98
        · subst hc
          clear HM hd'
          go_wp2
          go_ret
          refine ⟨?_, rfl⟩
          rw [unhide HR]
          rfl
        · have HM2 := hide (unhide HM (by rw [hd']; exact fun e => hc e.symm))
          have t1 : ((((⟨#[48, 49, 50, 51, 52, 53, 54, 55, 56, 57, 97, 98, 99, 100, 101, 102, 48, 49, 50, 51, 52, 53, 54, 55, 56, 57, 65, 66, 67, 68, 69, 70]⟩ : ByteArray)[11]'(by decide)).toNat : Int) == (c : Int)) = false := by
            show ((98 : Int) == (c : Int)) = false
            rw [beq_eq_false_iff_ne]; omega
          clear HM hd'
          go_wp2
          go_roundw
          case rel => exact ⟨12, rfl, by omega, hide (unhide HM2), hide (by first | rfl | trivial)⟩
          case measure => simp [intOf]
      · have hd' : d = 99 := hd
        clear hd
        by_cases hc : c = 99
        · subst hc
          clear HM hd'
          go_wp2
          go_ret
          refine ⟨?_, rfl⟩
          rw [unhide HR]
          rfl
        · have HM2 := hide (unhide HM (by rw [hd']; exact fun e => hc e.symm))
          have t1 : ((((⟨#[48, 49, 50, 51, 52, 53, 54, 55, 56, 57, 97, 98, 99, 100, 101, 102, 48, 49, 50, 51, 52, 53, 54, 55, 56, 57, 65, 66, 67, 68, 69, 70]⟩ : ByteArray)[12]'(by decide)).toNat : Int) == (c : Int)) = false := by
            show ((99 : Int) == (c : Int)) = false
            rw [beq_eq_false_iff_ne]; omega
          clear HM hd'
          go_wp2
          go_roundw
          case rel => exact ⟨13, rfl, by omega, hide (unhide HM2), hide (by first | rfl | trivial)⟩
          case measure => simp [intOf]
      · have hd' : d = 100 := hd
        clear hd
        by_cases hc : c = 100
        · subst hc
          clear HM hd'
          go_wp2
          go_ret
          refine ⟨?_, rfl⟩
          rw [unhide HR]
          rfl
        · have HM2 := hide (unhide HM (by rw [hd']; exact fun e => hc e.symm))
          have t1 : ((((⟨#[48, 49, 50, 51, 52, 53, 54, 55, 56, 57, 97, 98, 99, 100, 101, 102, 48, 49, 50, 51, 52, 53, 54, 55, 56, 57, 65, 66, 67, 68, 69, 70]⟩ : ByteArray)[13]'(by decide)).toNat : Int) == (c : Int)) = false := by
            show ((100 : Int) == (c : Int)) = false
            rw [beq_eq_false_iff_ne]; omega
          clear HM hd'
          go_wp2
          go_roundw
          case rel => exact ⟨14, rfl, by omega, hide (unhide HM2), hide (by first | rfl | trivial)⟩
          case measure => simp [intOf]
      · have hd' : d = 101 := hd
        clear hd
        by_cases hc : c = 101
        · subst hc
          clear HM hd'
          go_wp2
          go_ret
          refine ⟨?_, rfl⟩
          rw [unhide HR]
          rfl
        · have HM2 := hide (unhide HM (by rw [hd']; exact fun e => hc e.symm))
          have t1 : ((((⟨#[48, 49, 50, 51, 52, 53, 54, 55, 56, 57, 97, 98, 99, 100, 101, 102, 48, 49, 50, 51, 52, 53, 54, 55, 56, 57, 65, 66, 67, 68, 69, 70]⟩ : ByteArray)[14]'(by decide)).toNat : Int) == (c : Int)) = false := by
            show ((101 : Int) == (c : Int)) = false
            rw [beq_eq_false_iff_ne]; omega
          clear HM hd'
          go_wp2
          go_roundw
          case rel => exact ⟨15, rfl, by omega, hide (unhide HM2), hide (by first | rfl | trivial)⟩
          case measure => simp [intOf]
      · have hd' : d = 102 := hd
        clear hd
        by_cases hc : c = 102
        · subst hc
          clear HM hd'
          go_wp2
          go_ret
          refine ⟨?_, rfl⟩
          rw [unhide HR]
          rfl
        · have HM2 := hide (unhide HM (by rw [hd']; exact fun e => hc e.symm))
          have t1 : ((((⟨#[48, 49, 50, 51, 52, 53, 54, 55, 56, 57, 97, 98, 99, 100, 101, 102, 48, 49, 50, 51, 52, 53, 54, 55, 56, 57, 65, 66, 67, 68, 69, 70]⟩ : ByteArray)[15]'(by decide)).toNat : Int) == (c : Int)) = false := by
            show ((102 : Int) == (c : Int)) = false
            rw [beq_eq_false_iff_ne]; omega
          clear HM hd'
          go_wp2
          go_roundw
          case rel => exact ⟨16, rfl, by omega, hide (unhide HM2), hide (by first | rfl | trivial)⟩
          case measure => simp [intOf]
      · have hd' : d = 48 := hd
        clear hd
        by_cases hc : c = 48
        · subst hc
          clear HM hd'
          go_wp2
          go_ret
          refine ⟨?_, rfl⟩
          rw [unhide HR]
          rfl
        · have HM2 := hide (unhide HM (by rw [hd']; exact fun e => hc e.symm))
          have t1 : ((((⟨#[48, 49, 50, 51, 52, 53, 54, 55, 56, 57, 97, 98, 99, 100, 101, 102, 48, 49, 50, 51, 52, 53, 54, 55, 56, 57, 65, 66, 67, 68, 69, 70]⟩ : ByteArray)[16]'(by decide)).toNat : Int) == (c : Int)) = false := by
            show ((48 : Int) == (c : Int)) = false
            rw [beq_eq_false_iff_ne]; omega
          clear HM hd'
          go_wp2
          go_roundw
          case rel => exact ⟨17, rfl, by omega, hide (unhide HM2), hide (by first | rfl | trivial)⟩
          case measure => simp [intOf]
      · have hd' : d = 49 := hd
        clear hd
        by_cases hc : c = 49
        · subst hc
          clear HM hd'
          go_wp2
          go_ret
          refine ⟨?_, rfl⟩
          rw [unhide HR]
          rfl
        · have HM2 := hide (unhide HM (by rw [hd']; exact fun e => hc e.symm))
          have t1 : ((((⟨#[48, 49, 50, 51, 52, 53, 54, 55, 56, 57, 97, 98, 99, 100, 101, 102, 48, 49, 50, 51, 52, 53, 54, 55, 56, 57, 65, 66, 67, 68, 69, 70]⟩ : ByteArray)[17]'(by decide)).toNat : Int) == (c : Int)) = false := by
            show ((49 : Int) == (c : Int)) = false
            rw [beq_eq_false_iff_ne]; omega
          clear HM hd'
          go_wp2
          go_roundw
          case rel => exact ⟨18, rfl, by omega, hide (unhide HM2), hide (by first | rfl | trivial)⟩
          case measure => simp [intOf]
      · have hd' : d = 50 := hd
        clear hd
        by_cases hc : c = 50
        · subst hc
          clear HM hd'
          go_wp2
          go_ret
          refine ⟨?_, rfl⟩
          rw [unhide HR]
          rfl
        · have HM2 := hide (unhide HM (by rw [hd']; exact fun e => hc e.symm))
          have t1 : ((((⟨#[48, 49, 50, 51, 52, 53, 54, 55, 56, 57, 97, 98, 99, 100, 101, 102, 48, 49, 50, 51, 52, 53, 54, 55, 56, 57, 65, 66, 67, 68, 69, 70]⟩ : ByteArray)[18]'(by decide)).toNat : Int) == (c : Int)) = false := by
            show ((50 : Int) == (c : Int)) = false
            rw [beq_eq_false_iff_ne]; omega
          clear HM hd'
          go_wp2
          go_roundw
          case rel => exact ⟨19, rfl, by omega, hide (unhide HM2), hide (by first | rfl | trivial)⟩
          case measure => simp [intOf]
      · have hd' : d = 51 := hd
        clear hd
        by_cases hc : c = 51
        · subst hc
          clear HM hd'
          go_wp2
          go_ret
          refine ⟨?_, rfl⟩
          rw [unhide HR]
          rfl
        · have HM2 := hide (unhide HM (by rw [hd']; exact fun e => hc e.symm))
          have t1 : ((((⟨#[48, 49, 50, 51, 52, 53, 54, 55, 56, 57, 97, 98, 99, 100, 101, 102, 48, 49, 50, 51, 52, 53, 54, 55, 56, 57, 65, 66, 67, 68, 69, 70]⟩ : ByteArray)[19]'(by decide)).toNat : Int) == (c : Int)) = false := by
            show ((51 : Int) == (c : Int)) = false
            rw [beq_eq_false_iff_ne]; omega
          clear HM hd'
          go_wp2
          go_roundw
          case rel => exact ⟨20, rfl, by omega, hide (unhide HM2), hide (by first | rfl | trivial)⟩
          case measure => simp [intOf]
      · have hd' : d = 52 := hd
        clear hd
        by_cases hc : c = 52
        · subst hc
          clear HM hd'
          go_wp2
          go_ret
          refine ⟨?_, rfl⟩
          rw [unhide HR]
          rfl
        · have HM2 := hide (unhide HM (by rw [hd']; exact fun e => hc e.symm))
          have t1 : ((((⟨#[48, 49, 50, 51, 52, 53, 54, 55, 56, 57, 97, 98, 99, 100, 101, 102, 48, 49, 50, 51, 52, 53, 54, 55, 56, 57, 65, 66, 67, 68, 69, 70]⟩ : ByteArray)[20]'(by decide)).toNat : Int) == (c : Int)) = false := by
            show ((52 : Int) == (c : Int)) = false
            rw [beq_eq_false_iff_ne]; omega
          clear HM hd'
          go_wp2
          go_roundw
          case rel => exact ⟨21, rfl, by omega, hide (unhide HM2), hide (by first | rfl | trivial)⟩
          case measure => simp [intOf]
      · have hd' : d = 53 := hd
        clear hd
        by_cases hc : c = 53
        · subst hc
          clear HM hd'
          go_wp2
          go_ret
          refine ⟨?_, rfl⟩
          rw [unhide HR]
          rfl
        · have HM2 := hide (unhide HM (by rw [hd']; exact fun e => hc e.symm))
          have t1 : ((((⟨#[48, 49, 50, 51, 52, 53, 54, 55, 56, 57, 97, 98, 99, 100, 101, 102, 48, 49, 50, 51, 52, 53, 54, 55, 56, 57, 65, 66, 67, 68, 69, 70]⟩ : ByteArray)[21]'(by decide)).toNat : Int) == (c : Int)) = false := by
            show ((53 : Int) == (c : Int)) = false
            rw [beq_eq_false_iff_ne]; omega
          clear HM hd'
          go_wp2
          go_roundw
          case rel => exact ⟨22, rfl, by omega, hide (unhide HM2), hide (by first | rfl | trivial)⟩
          case measure => simp [intOf]
      · have hd' : d = 54 := hd
        clear hd
        by_cases hc : c = 54
        · subst hc
          clear HM hd'
          go_wp2
          go_ret
          refine ⟨?_, rfl⟩
          rw [unhide HR]
          rfl
        · have HM2 := hide (unhide HM (by rw [hd']; exact fun e => hc e.symm))
          have t1 : ((((⟨#[48, 49, 50, 51, 52, 53, 54, 55, 56, 57, 97, 98, 99, 100, 101, 102, 48, 49, 50, 51, 52, 53, 54, 55, 56, 57, 65, 66, 67, 68, 69, 70]⟩ : ByteArray)[22]'(by decide)).toNat : Int) == (c : Int)) = false := by
            show ((54 : Int) == (c : Int)) = false
            rw [beq_eq_false_iff_ne]; omega
          clear HM hd'
          go_wp2
          go_roundw
          case rel => exact ⟨23, rfl, by omega, hide (unhide HM2), hide (by first | rfl | trivial)⟩
          case measure => simp [intOf]
      · have hd' : d = 55 := hd
        clear hd
        by_cases hc : c = 55
        · subst hc
          clear HM hd'
          go_wp2
          go_ret
          refine ⟨?_, rfl⟩
          rw [unhide HR]
          rfl
        · have HM2 := hide (unhide HM (by rw [hd']; exact fun e => hc e.symm))
          have t1 : ((((⟨#[48, 49, 50, 51, 52, 53, 54, 55, 56, 57, 97, 98, 99, 100, 101, 102, 48, 49, 50, 51, 52, 53, 54, 55, 56, 57, 65, 66, 67, 68, 69, 70]⟩ : ByteArray)[23]'(by decide)).toNat : Int) == (c : Int)) = false := by
            show ((55 : Int) == (c : Int)) = false
            rw [beq_eq_false_iff_ne]; omega
          clear HM hd'
          go_wp2
          go_roundw
          case rel => exact ⟨24, rfl, by omega, hide (unhide HM2), hide (by first | rfl | trivial)⟩
          case measure => simp [intOf]
      · have hd' : d = 56 := hd
        clear hd
        by_cases hc : c = 56
        · subst hc
          clear HM hd'
          go_wp2
          go_ret
          refine ⟨?_, rfl⟩
          rw [unhide HR]
          rfl
        · have HM2 := hide (unhide HM (by rw [hd']; exact fun e => hc e.symm))
          have t1 : ((((⟨#[48, 49, 50, 51, 52, 53, 54, 55, 56, 57, 97, 98, 99, 100, 101, 102, 48, 49, 50, 51, 52, 53, 54, 55, 56, 57, 65, 66, 67, 68, 69, 70]⟩ : ByteArray)[24]'(by decide)).toNat : Int) == (c : Int)) = false := by
            show ((56 : Int) == (c : Int)) = false
            rw [beq_eq_false_iff_ne]; omega
          clear HM hd'
          go_wp2
          go_roundw
          case rel => exact ⟨25, rfl, by omega, hide (unhide HM2), hide (by first | rfl | trivial)⟩
          case measure => simp [intOf]
      · have hd' : d = 57 := hd
        clear hd
        by_cases hc : c = 57
        · subst hc
          clear HM hd'
          go_wp2
          go_ret
          refine ⟨?_, rfl⟩
          rw [unhide HR]
          rfl
        · have HM2 := hide (unhide HM (by rw [hd']; exact fun e => hc e.symm))
          have t1 : ((((⟨#[48, 49, 50, 51, 52, 53, 54, 55, 56, 57, 97, 98, 99, 100, 101, 102, 48, 49, 50, 51, 52, 53, 54, 55, 56, 57, 65, 66, 67, 68, 69, 70]⟩ : ByteArray)[25]'(by decide)).toNat : Int) == (c : Int)) = false := by
            show ((57 : Int) == (c : Int)) = false
            rw [beq_eq_false_iff_ne]; omega
          clear HM hd'
          go_wp2
          go_roundw
          case rel => exact ⟨26, rfl, by omega, hide (unhide HM2), hide (by first | rfl | trivial)⟩
          case measure => simp [intOf]
      · have hd' : d = 65 := hd
        clear hd
        by_cases hc : c = 65
        · subst hc
          clear HM hd'
          go_wp2
          go_ret
          refine ⟨?_, rfl⟩
          rw [unhide HR]
          rfl
        · have HM2 := hide (unhide HM (by rw [hd']; exact fun e => hc e.symm))
          have t1 : ((((⟨#[48, 49, 50, 51, 52, 53, 54, 55, 56, 57, 97, 98, 99, 100, 101, 102, 48, 49, 50, 51, 52, 53, 54, 55, 56, 57, 65, 66, 67, 68, 69, 70]⟩ : ByteArray)[26]'(by decide)).toNat : Int) == (c : Int)) = false := by
            show ((65 : Int) == (c : Int)) = false
            rw [beq_eq_false_iff_ne]; omega
          clear HM hd'
          go_wp2
          go_roundw
          case rel => exact ⟨27, rfl, by omega, hide (unhide HM2), hide (by first | rfl | trivial)⟩
          case measure => simp [intOf]
      · have hd' : d = 66 := hd
        clear hd
        by_cases hc : c = 66
        · subst hc
          clear HM hd'
          go_wp2
          go_ret
          refine ⟨?_, rfl⟩
          rw [unhide HR]
          rfl
        · have HM2 := hide (unhide HM (by rw [hd']; exact fun e => hc e.symm))
          have t1 : ((((⟨#[48, 49, 50, 51, 52, 53, 54, 55, 56, 57, 97, 98, 99, 100, 101, 102, 48, 49, 50, 51, 52, 53, 54, 55, 56, 57, 65, 66, 67, 68, 69, 70]⟩ : ByteArray)[27]'(by decide)).toNat : Int) == (c : Int)) = false := by
            show ((66 : Int) == (c : Int)) = false
            rw [beq_eq_false_iff_ne]; omega
          clear HM hd'
          go_wp2
          go_roundw
          case rel => exact ⟨28, rfl, by omega, hide (unhide HM2), hide (by first | rfl | trivial)⟩
          case measure => simp [intOf]
      · have hd' : d = 67 := hd
        clear hd
        by_cases hc : c = 67
        · subst hc
          clear HM hd'
          go_wp2
          go_ret
          refine ⟨?_, rfl⟩
          rw [unhide HR]
          rfl
        · have HM2 := hide (unhide HM (by rw [hd']; exact fun e => hc e.symm))
          have t1 : ((((⟨#[48, 49, 50, 51, 52, 53, 54, 55, 56, 57, 97, 98, 99, 100, 101, 102, 48, 49, 50, 51, 52, 53, 54, 55, 56, 57, 65, 66, 67, 68, 69, 70]⟩ : ByteArray)[28]'(by decide)).toNat : Int) == (c : Int)) = false := by
            show ((67 : Int) == (c : Int)) = false
            rw [beq_eq_false_iff_ne]; omega
          clear HM hd'
          go_wp2
          go_roundw
          case rel => exact ⟨29, rfl, by omega, hide (unhide HM2), hide (by first | rfl | trivial)⟩
          case measure => simp [intOf]
      · have hd' : d = 68 := hd
        clear hd
        by_cases hc : c = 68
        · subst hc
          clear HM hd'
          go_wp2
          go_ret
          refine ⟨?_, rfl⟩
          rw [unhide HR]
          rfl
        · have HM2 := hide (unhide HM (by rw [hd']; exact fun e => hc e.symm))
          have t1 : ((((⟨#[48, 49, 50, 51, 52, 53, 54, 55, 56, 57, 97, 98, 99, 100, 101, 102, 48, 49, 50, 51, 52, 53, 54, 55, 56, 57, 65, 66, 67, 68, 69, 70]⟩ : ByteArray)[29]'(by decide)).toNat : Int) == (c : Int)) = false := by
            show ((68 : Int) == (c : Int)) = false
            rw [beq_eq_false_iff_ne]; omega
          clear HM hd'
          go_wp2
          go_roundw
          case rel => exact ⟨30, rfl, by omega, hide (unhide HM2), hide (by first | rfl | trivial)⟩
          case measure => simp [intOf]
      · have hd' : d = 69 := hd
        clear hd
        by_cases hc : c = 69
        · subst hc
          clear HM hd'
          go_wp2
          go_ret
          refine ⟨?_, rfl⟩
          rw [unhide HR]
          rfl
        · have HM2 := hide (unhide HM (by rw [hd']; exact fun e => hc e.symm))
          have t1 : ((((⟨#[48, 49, 50, 51, 52, 53, 54, 55, 56, 57, 97, 98, 99, 100, 101, 102, 48, 49, 50, 51, 52, 53, 54, 55, 56, 57, 65, 66, 67, 68, 69, 70]⟩ : ByteArray)[30]'(by decide)).toNat : Int) == (c : Int)) = false := by
            show ((69 : Int) == (c : Int)) = false
            rw [beq_eq_false_iff_ne]; omega
          clear HM hd'
          go_wp2
          go_roundw
          case rel => exact ⟨31, rfl, by omega, hide (unhide HM2), hide (by first | rfl | trivial)⟩
          case measure => simp [intOf]
      · have hd' : d = 70 := hd
        clear hd
        by_cases hc : c = 70
        · subst hc
          clear HM hd'
          go_wp2
          go_ret
          refine ⟨?_, rfl⟩
          rw [unhide HR]
          rfl
        · have HM2 := hide (unhide HM (by rw [hd']; exact fun e => hc e.symm))
          have t1 : ((((⟨#[48, 49, 50, 51, 52, 53, 54, 55, 56, 57, 97, 98, 99, 100, 101, 102, 48, 49, 50, 51, 52, 53, 54, 55, 56, 57, 65, 66, 67, 68, 69, 70]⟩ : ByteArray)[31]'(by decide)).toNat : Int) == (c : Int)) = false := by
            show ((70 : Int) == (c : Int)) = false
            rw [beq_eq_false_iff_ne]; omega
          clear HM hd'
          go_wp2
          go_roundw
          case rel => exact ⟨32, rfl, by omega, hide (unhide HM2), hide (by first | rfl | trivial)⟩
          case measure => simp [intOf]
theorem rshort_any (w : World) (c : Nat) : Calls Tryz.prog 87 #[.int .u8 (c : Nat)] w fun e w' => e = .returned (.int .u8 (Larder8.shortC c : Nat)) ∧ Hid (Below w.heap.size w w') := by
  obtain ⟨R, hR⟩ : ∃ R, R = Larder8.shortC c := ⟨_, rfl⟩
  rw [← hR]
  have HR := hide hR
  have AL : Hid (Below w.heap.size w (w.alloc (.cells #[.int .u8 10, .int .u8 13, .int .u8 9, .int .u8 8, .int .u8 7] 5))) := hide ((Below.refl _ _).alloc (Nat.le_refl _) _)
  have c0 : (w.alloc (.cells #[.int .u8 10, .int .u8 13, .int .u8 9, .int .u8 8, .int .u8 7] 5)).heap[w.heap.size]? = some (.cells #[.int .u8 10, .int .u8 13, .int .u8 9, .int .u8 8, .int .u8 7] 5 (0, 0)) := heap_alloc_new w _
  have e0 := cell_of_row _ _ 0 _ _ _ c0
  have e1 := cell_of_row _ _ 1 _ _ _ c0
  have e2 := cell_of_row _ _ 2 _ _ _ c0
  have e3 := cell_of_row _ _ 3 _ _ _ c0
  have e4 := cell_of_row _ _ 4 _ _ _ c0
  clear hR c0
  go_enter Tryz.func87, Tryz.ntmps87
  go_wp2
  obtain ⟨w1, hw1⟩ : ∃ w1, w1 = w.alloc (.cells #[.int .u8 10, .int .u8 13, .int .u8 9, .int .u8 8, .int .u8 7] 5) := ⟨_, rfl⟩
  rw [← hw1] at AL e0 e1 e2 e3 e4 ⊢
  clear hw1
  go_loopw [5] (fun iv wr => ∃ i : Nat, iv = .int .i64 (i : Nat) ∧ i ≤ 5 ∧ Hid (∀ j, j < i → [110, 114, 116, 98, 97].getD j 0 ≠ c) ∧ Hid (wr = w1)) (fun iv _ => 5 - (intOf iv).toNat)
  case atStart => exact ⟨0, rfl, by omega, hide (fun j hj => by omega), hide rfl⟩
  case round =>
    obtain ⟨i, rfl, hi, hall, hw⟩ := hrel
    obtain rfl := (unhide hw).symm
    clear hw
    have hx : i = 0 ∨ i = 1 ∨ i = 2 ∨ i = 3 ∨ i = 4 ∨ i = 5 := by omega
    rcases hx with rfl | rfl | rfl | rfl | rfl | rfl
    · by_cases hc : c = 110
      · subst hc
        go_wp2
        go_ret
        refine ⟨?_, AL⟩
        rw [unhide HR]
        rfl
      · have t1 : ((((⟨#[110, 114, 116, 98, 97]⟩ : ByteArray)[0]'(by decide)).toNat : Int) == (c : Int)) = false := by
          show ((110 : Int) == (c : Int)) = false
          rw [beq_eq_false_iff_ne]; omega
        go_wp2
        go_roundw
        case rel => exact ⟨1, rfl, by omega, hide (fun j hj => by
          rcases Nat.lt_or_ge j 0 with q | q
          · exact unhide hall j q
          · obtain rfl : j = 0 := by omega
            exact fun e => hc e.symm), hide (by first | rfl | trivial)⟩
        case measure => simp [intOf]
    · by_cases hc : c = 114
      · subst hc
        go_wp2
        go_ret
        refine ⟨?_, AL⟩
        rw [unhide HR]
        rfl
      · have t1 : ((((⟨#[110, 114, 116, 98, 97]⟩ : ByteArray)[1]'(by decide)).toNat : Int) == (c : Int)) = false := by
          show ((114 : Int) == (c : Int)) = false
          rw [beq_eq_false_iff_ne]; omega
        go_wp2
        go_roundw
        case rel => exact ⟨2, rfl, by omega, hide (fun j hj => by
          rcases Nat.lt_or_ge j 1 with q | q
          · exact unhide hall j q
          · obtain rfl : j = 1 := by omega
            exact fun e => hc e.symm), hide (by first | rfl | trivial)⟩
        case measure => simp [intOf]
    · by_cases hc : c = 116
      · subst hc
        go_wp2
        go_ret
        refine ⟨?_, AL⟩
        rw [unhide HR]
        rfl
      · have t1 : ((((⟨#[110, 114, 116, 98, 97]⟩ : ByteArray)[2]'(by decide)).toNat : Int) == (c : Int)) = false := by
          show ((116 : Int) == (c : Int)) = false
          rw [beq_eq_false_iff_ne]; omega
        go_wp2
        go_roundw
        case rel => exact ⟨3, rfl, by omega, hide (fun j hj => by
          rcases Nat.lt_or_ge j 2 with q | q
          · exact unhide hall j q
          · obtain rfl : j = 2 := by omega
            exact fun e => hc e.symm), hide (by first | rfl | trivial)⟩
        case measure => simp [intOf]
    · by_cases hc : c = 98
      · subst hc
        go_wp2
        go_ret
        refine ⟨?_, AL⟩
        rw [unhide HR]
        rfl
      · have t1 : ((((⟨#[110, 114, 116, 98, 97]⟩ : ByteArray)[3]'(by decide)).toNat : Int) == (c : Int)) = false := by
          show ((98 : Int) == (c : Int)) = false
          rw [beq_eq_false_iff_ne]; omega
        go_wp2
        go_roundw
        case rel => exact ⟨4, rfl, by omega, hide (fun j hj => by
          rcases Nat.lt_or_ge j 3 with q | q
          · exact unhide hall j q
          · obtain rfl : j = 3 := by omega
            exact fun e => hc e.symm), hide (by first | rfl | trivial)⟩
        case measure => simp [intOf]
    · by_cases hc : c = 97
      · subst hc
        go_wp2
        go_ret
        refine ⟨?_, AL⟩
        rw [unhide HR]
        rfl
      · have t1 : ((((⟨#[110, 114, 116, 98, 97]⟩ : ByteArray)[4]'(by decide)).toNat : Int) == (c : Int)) = false := by
          show ((97 : Int) == (c : Int)) = false
          rw [beq_eq_false_iff_ne]; omega
        go_wp2
        go_roundw
        case rel => exact ⟨5, rfl, by omega, hide (fun j hj => by
          rcases Nat.lt_or_ge j 4 with q | q
          · exact unhide hall j q
          · obtain rfl : j = 4 := by omega
            exact fun e => hc e.symm), hide (by first | rfl | trivial)⟩
        case measure => simp [intOf]
    · go_wp2
      go_ret
      refine ⟨?_, AL⟩
      have a0 := unhide hall 0 (by decide); have a1 := unhide hall 1 (by decide); have a2 := unhide hall 2 (by decide); have a3 := unhide hall 3 (by decide); have a4 := unhide hall 4 (by decide)
      simp at a0 a1 a2 a3 a4
      rw [unhide HR]
      unfold Larder8.shortC
      rw [if_neg (by omega), if_neg (by omega), if_neg (by omega), if_neg (by omega), if_neg (by omega)]
      rfl
end Go.Proofs.YtecfgbjnjgjkoaaGreatDoor
