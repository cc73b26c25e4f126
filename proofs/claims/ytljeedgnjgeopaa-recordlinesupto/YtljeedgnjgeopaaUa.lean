/- The contract of the document's Sum. -/
import Derived.Test.YtljeedgnjgeopaaSm
namespace Go.Proofs.Ytljeedgnjgeopaa
open Go.ChangeShapes Go.WideShapes Go.ChangeAt Go.RowKit
set_option linter.unusedVariables false

def bitStep (r bit : Nat) : Nat := if (r / 9223372036854775808) ^^^ bit = 1 then (r * 2 % 18446744073709551616) ^^^ 4823603603198064275 else r * 2 % 18446744073709551616

theorem topBit_shl (b : Bool) : Larder.topBit b <<< 1 = 0#64 := by cases b <;> decide

theorem msb_nat (r : BitVec 64) : r.msb = decide (r.toNat / 9223372036854775808 = 1) := by
  rw [BitVec.msb_eq_decide, decide_eq_decide]
  have := r.isLt
  omega

theorem crc_bit (r : BitVec 64) (b : Bool) : (Larder.crcL (r ^^^ Larder.topBit b)).toNat = bitStep r.toNat b.toNat := by
  have hm : (r ^^^ Larder.topBit b).msb = decide ((r.toNat / 9223372036854775808) ^^^ b.toNat = 1) := by
    rw [BitVec.msb_xor, msb_nat r]
    have hlt : r.toNat / 9223372036854775808 < 2 := by have := r.isLt; omega
    have htb : (Larder.topBit b).msb = b := by cases b <;> decide
    rw [htb]
    obtain h | h : r.toNat / 9223372036854775808 = 0 ∨ r.toNat / 9223372036854775808 = 1 := by omega
    · rw [h]; cases b <;> decide
    · rw [h]; cases b <;> decide
  unfold Larder.crcL bitStep
  rw [BitVec.shiftLeft_xor_distrib, topBit_shl, BitVec.xor_zero, hm]
  have hs : (r <<< 1).toNat = r.toNat * 2 % 18446744073709551616 := by rw [BitVec.toNat_shiftLeft, Nat.shiftLeft_eq]
  by_cases h : (r.toNat / 9223372036854775808) ^^^ b.toNat = 1
  · rw [if_pos h, decide_eq_true h, if_pos rfl, BitVec.toNat_xor, hs]; rfl
  · rw [if_neg h, decide_eq_false h, if_neg (by decide), BitVec.xor_zero, hs]

/-- the register behind j bits of the byte c -/
def midN (R : BitVec 64) (c j : Nat) : Nat := (Larder.feed R ((Larder.byteBits c).take j)).toNat
theorem midN_lt (R : BitVec 64) (c j : Nat) : midN R c j < 18446744073709551616 := BitVec.isLt _
theorem midN_succ (R : BitVec 64) (c j : Nat) (hj : j < 8) : midN R c (j + 1) = bitStep (midN R c j) (c * 2 ^ j / 128 % 2) := by
  have hlen : (Larder.byteBits c).length = 8 := rfl
  have e : (Larder.byteBits c).take (j + 1) = (Larder.byteBits c).take j ++ [(Larder.byteBits c).getD j false] := by
    rw [List.take_succ_eq_append_getElem (by omega), List.getD_eq_getElem?_getD, List.getElem?_eq_getElem (by omega)]; rfl
  have hbit : ((Larder.byteBits c).getD j false).toNat = c * 2 ^ j / 128 % 2 := by
    obtain rfl | rfl | rfl | rfl | rfl | rfl | rfl | rfl : j = 0 ∨ j = 1 ∨ j = 2 ∨ j = 3 ∨ j = 4 ∨ j = 5 ∨ j = 6 ∨ j = 7 := by omega
    all_goals
      simp only [Larder.byteBits, List.getD_cons_succ, List.getD_cons_zero, Nat.toNat_testBit]
      simp only [Nat.reducePow]
      omega
  unfold midN
  rw [e, Larder.feed_append]
  show (Larder.crcL (_ ^^^ Larder.topBit _)).toNat = _
  rw [crc_bit, hbit]

theorem sum_next (l : List Nat) (k : Nat) (hk : k < l.length) : midN (Larder.sumOf (l.take k)) (l.getD k 0) 8 = Larder.sumK l (k + 1) := by
  have e : l.take (k + 1) = l.take k ++ [l.getD k 0] := by
    rw [List.take_succ_eq_append_getElem hk, List.getD_eq_getElem?_getD, List.getElem?_eq_getElem hk]; rfl
  unfold midN Larder.sumK
  rw [e]
  unfold Larder.sumOf Larder.bitsOf
  rw [List.flatMap_append, Larder.feed_append]
  simp only [List.flatMap_cons, List.flatMap_nil, List.append_nil]
  rfl

theorem bit_of (C : Nat) (hC : C < 65536) : bits BinOp.and IntKind.u64 ((C : Int) / 128) 1 = ((C / 128 % 2 : Nat) : Int) := by
  have e : (C : Int) / 128 = ((C / 128 : Nat) : Int) := by omega
  have := u64_and_nat (C / 128) 1 (by omega) (by decide)
  rw [nat_mask1] at this
  rw [e]; exact this
theorem t_of (r bt : Nat) (hr : r < 18446744073709551616) (hb : bt < 2) : bits BinOp.xor IntKind.u64 ((r : Int) / 9223372036854775808) (bt : Int) = (((r / 9223372036854775808) ^^^ bt : Nat) : Int) := by
  have e : (r : Int) / 9223372036854775808 = ((r / 9223372036854775808 : Nat) : Int) := by omega
  rw [e]; exact u64_xor_nat _ _ (by omega) (by omega)

set_option maxHeartbeats 1000000 in
theorem rsum_any (a : Option Addr) (cap : Nat) (w : World) (l : List Nat) (hl : l.length ≤ 140737488355328) (h256 : Small l) (hB : Bytes w a l) :
    Calls Try.prog 46 #[.slice a l.length cap] w fun e w' => e = .returned (.int .u64 ((Larder.sumOf l).toNat : Nat)) ∧ w' = w := by
  have HF := hide (Larder.sumK_all l)
  rcases hB with rfl | ⟨b, off, rfl, hb, hc⟩
  · go_enter Try.func46, Try.ntmps46
    go_wp2_with fail
    go_loop [3, 4] (fun r i => i = .int .i64 0 ∧ r = .int .u64 18446744073709551615) (fun _ _ => 0)
    case atStart => exact ⟨rfl, rfl⟩
    case round =>
      obtain ⟨rfl, rfl⟩ := hrel
      go_wp2
      go_ret
      refine ⟨?_, rfl⟩
      rw [← unhide HF]; rfl
  · go_enter Try.func46, Try.ntmps46
    go_wp2_with fail
    go_loop [3, 4] (fun r i => ∃ k : Nat, k ≤ l.length ∧ i = .int .i64 k ∧ r = .int .u64 (Larder.sumK l k : Nat)) (fun _ i => l.length - (intOf i).toNat)
    case atStart => exact ⟨0, Nat.zero_le _, rfl, by rw [Larder.sumK_zero]; rfl⟩
    case round =>
      obtain ⟨k, hk, rfl, rfl⟩ := hrel
      by_cases hlt : k < l.length
      · have hcx := hc k hlt
        have h25 := h256 k hlt
        obtain ⟨c, hcc⟩ : ∃ c, c = l.getD k 0 := ⟨_, rfl⟩
        rw [← hcc] at hcx h25
        obtain ⟨G, hG⟩ : ∃ G : Nat → Nat, ∀ j, G j = midN (Larder.sumOf (l.take k)) c j := ⟨_, fun _ => rfl⟩
        have hG0 : Larder.sumK l k = G 0 := by rw [hG]; rfl
        have hG8 : G 8 = Larder.sumK l (k + 1) := by rw [hG, hcc]; exact sum_next l k hlt
        have hGs : ∀ j, j < 8 → G (j + 1) = bitStep (G j) (c * 2 ^ j / 128 % 2) := fun j hj => by rw [hG, hG]; exact midN_succ _ _ _ hj
        have hGl : ∀ j, G j < 18446744073709551616 := fun j => by rw [hG]; exact midN_lt _ _ _
        rw [hG0]
        have H8 := hide hG8
        have HS := hide hGs
        clear hG hG0 hG8 hGs hcc hc h256
        go_wp2_with fail
        go_loop [3, 5, 6, 7] (fun r c' i _ => ∃ j : Nat, j ≤ 8 ∧ i = .int .i64 j ∧ r = .int .u64 (G j : Nat) ∧ c' = .int .u64 (c * 2 ^ j : Nat)) (fun _ _ i _ => 8 - (intOf i).toNat)
        case atStart => exact ⟨0, by omega, rfl, rfl, by simp⟩
        case round =>
          obtain ⟨j, hj, rfl, rfl, rfl⟩ := hrel
          by_cases hj8 : j < 8
          · have hst := unhide HS j hj8
            have hr := hGl j
            have hpow : 2 ^ j ≤ 128 := by
              have : 2 ^ j ≤ 2 ^ 7 := Nat.pow_le_pow_right (by omega) (by omega)
              omega
            have hC : c * 2 ^ j < 65536 := by
              have : c * 2 ^ j ≤ 255 * 128 := Nat.mul_le_mul (by omega) hpow
              omega
            have hC2 : c * 2 ^ (j + 1) = c * 2 ^ j * 2 := by rw [Nat.pow_succ, Nat.mul_assoc]
            obtain ⟨C, eC⟩ : ∃ C, C = c * 2 ^ j := ⟨_, rfl⟩
            rw [← eC] at hst hC hC2
            rw [← eC]
            have e1 := bit_of C hC
            have hbt : C / 128 % 2 < 2 := by omega
            obtain ⟨bt, ebt⟩ : ∃ bt, bt = C / 128 % 2 := ⟨_, rfl⟩
            rw [← ebt] at hst e1 hbt
            have e2 := t_of (G j) bt hr hbt
            have e3 : IntKind.u64.wrap ((G j : Int) * 2) = ((G j * 2 % 18446744073709551616 : Nat) : Int) := by rw [IntKind.wrap_u64]; omega
            have hl2 : G j * 2 % 18446744073709551616 < 18446744073709551616 := Nat.mod_lt _ (by decide)
            have e4 := u64_xor_nat (G j * 2 % 18446744073709551616) 4823603603198064275 hl2 (by decide)
            unfold bitStep at hst
            obtain ⟨r2, er2⟩ : ∃ y, y = G j * 2 % 18446744073709551616 := ⟨_, rfl⟩
            rw [← er2] at hst e3 e4 hl2
            obtain ⟨r3, er3⟩ : ∃ y, y = r2 ^^^ 4823603603198064275 := ⟨_, rfl⟩
            rw [← er3] at hst e4
            have e4' : bits BinOp.xor IntKind.u64 (r2 : Int) 4823603603198064275 = (r3 : Int) := e4
            obtain ⟨tt, ett⟩ : ∃ y, y = G j / 9223372036854775808 ^^^ bt := ⟨_, rfl⟩
            rw [← ett] at hst e2
            have HC2 := hide hC2
            by_cases ht : tt = 1
            · rw [if_pos ht] at hst
              have HST := hide hst
              have hte : ((tt : Int) == 1) = true := by rw [beq_iff_eq]; omega
              clear hst ht ett er3 er2 ebt eC hC2 e4
              generalize G j = r at *
              go_wp2
              go_round
              case rel => exact ⟨j + 1, by omega, by go_num, by rw [unhide HST], by rw [unhide HC2]; go_num⟩
              case measure => simp [intOf]; omega
            · rw [if_neg ht] at hst
              have HST := hide hst
              have hte : ((tt : Int) == 1) = false := by rw [beq_eq_false_iff_ne]; omega
              clear hst ht ett er3 er2 ebt eC hC2 e4
              generalize G j = r at *
              go_wp2
              go_round
              case rel => exact ⟨j + 1, by omega, by go_num, by rw [unhide HST], by rw [unhide HC2]; go_num⟩
              case measure => simp [intOf]; omega
          · have hj8 : j = 8 := by omega
            subst hj8
            rw [unhide H8]
            go_wp2
            go_round
            case rel => exact ⟨k + 1, by omega, by go_num, rfl⟩
            case measure => simp [intOf]; omega
      · have he : k = l.length := by omega
        subst he
        go_wp2
        go_ret
        exact ⟨by rw [← unhide HF]; rfl, rfl⟩
end Go.Proofs.Ytljeedgnjgeopaa
