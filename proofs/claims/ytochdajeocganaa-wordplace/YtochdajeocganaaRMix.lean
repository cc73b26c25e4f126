/- Contracts of the document's times and Mix. -/
import Derived.Test.YtochdajeocganaaHash
namespace Go.Proofs.Ytochdajeocganaa
open Go.ChangeShapes Go.WideShapes Go.ChangeAt Go.RowKit
set_option linter.unusedVariables false

theorem mod_help (p A k n : Nat) : (p % n + A % n * k) % n = (p + A * k) % n := by
  rw [Nat.add_mod, Nat.mod_mod, Nat.mul_mod, Nat.mod_mod, ← Nat.mul_mod, ← Nat.add_mod]

theorem times_odd (a b p : Nat) (h : b % 2 = 1) : ((p + a) % 18446744073709551616 + (a + a) % 18446744073709551616 * (b / 2)) % 18446744073709551616 = (p + a * b) % 18446744073709551616 := by
  have e : p + a * b = (p + a) + (a + a) * (b / 2) := by
    have : b = 2 * (b / 2) + 1 := by omega
    conv => lhs; rw [this]
    rw [Nat.mul_add, Nat.mul_one, ← Nat.mul_assoc, Nat.mul_comm a 2, Nat.two_mul]; omega
  rw [e]; exact mod_help _ _ _ _
theorem times_even (a b p : Nat) (h : ¬ b % 2 = 1) : (p + (a + a) % 18446744073709551616 * (b / 2)) % 18446744073709551616 = (p + a * b) % 18446744073709551616 := by
  have e : p + a * b = p + (a + a) * (b / 2) := by
    have : b = 2 * (b / 2) := by omega
    conv => lhs; rw [this]
    rw [← Nat.mul_assoc, Nat.mul_comm a 2, Nat.two_mul]
  rw [e, Nat.add_mod p, Nat.mul_mod]
  conv => rhs; rw [Nat.add_mod, Nat.mul_mod]
  simp

set_option maxHeartbeats 400000 in
theorem times_any (a0 b0 : Nat) (w : World) (ha0 : a0 < 18446744073709551616) (hb0 : b0 < 18446744073709551616) :
    Calls Try.prog 49 #[.int .u64 a0, .int .u64 b0] w fun e w' => e = .returned (.int .u64 ((a0 * b0 % 18446744073709551616 : Nat) : Int)) ∧ w' = w := by
  obtain ⟨R, hR⟩ : ∃ R, R = a0 * b0 % 18446744073709551616 := ⟨_, rfl⟩
  rw [← hR]
  have H0 : Hid ((0 + a0 * b0) % 18446744073709551616 = R) := by rw [Nat.zero_add, hR]; rfl
  clear hR
  go_enter Try.func49, Try.ntmps49
  go_wp2_with fail
  go_loop [0, 1, 5] (fun va vb vp => ∃ a b p : Nat, va = .int .u64 a ∧ vb = .int .u64 b ∧ vp = .int .u64 p ∧ a < 18446744073709551616 ∧ b < 18446744073709551616 ∧ p < 18446744073709551616 ∧ (p + a * b) % 18446744073709551616 = R) (fun _ vb _ => (intOf vb).toNat)
  case atStart => exact ⟨a0, b0, 0, rfl, rfl, rfl, ha0, hb0, by decide, unhide H0⟩
  case round =>
    obtain ⟨a, b, p, rfl, rfl, rfl, ha, hb, hp, hinv⟩ := hrel
    have HI := hide hinv
    clear hinv
    by_cases hpos : 0 < b
    · have haa : IntKind.u64.wrap ((a : Int) + (a : Int)) = (((a + a) % 18446744073709551616 : Nat) : Int) := by rw [IntKind.wrap_u64]; omega
      have hla : (a + a) % 18446744073709551616 < 18446744073709551616 := Nat.mod_lt _ (by decide)
      by_cases hodd : b % 2 = 1
      · have hpa : IntKind.u64.wrap ((p : Int) + (a : Int)) = (((p + a) % 18446744073709551616 : Nat) : Int) := by rw [IntKind.wrap_u64]; omega
        have hlp : (p + a) % 18446744073709551616 < 18446744073709551616 := Nat.mod_lt _ (by decide)
        have HT := hide (times_odd a b p hodd)
        obtain ⟨a2, ea⟩ : ∃ y, y = (a + a) % 18446744073709551616 := ⟨_, rfl⟩
        obtain ⟨p2, ep⟩ : ∃ y, y = (p + a) % 18446744073709551616 := ⟨_, rfl⟩
        rw [← ea] at haa hla HT
        rw [← ep] at hpa hlp HT
        have ho : ((b : Int) % 2 == 1) = true := by rw [beq_iff_eq]; omega
        clear ea ep hodd
        go_wp2
        go_round
        case rel => exact ⟨a2, b / 2, p2, rfl, by go_num, rfl, hla, by omega, hlp, by rw [unhide HT]; exact unhide HI⟩
        case measure => simp [intOf]; omega
      · have HT := hide (times_even a b p hodd)
        obtain ⟨a2, ea⟩ : ∃ y, y = (a + a) % 18446744073709551616 := ⟨_, rfl⟩
        rw [← ea] at haa hla HT
        have ho : ((b : Int) % 2 == 1) = false := by rw [beq_eq_false_iff_ne]; omega
        clear ea hodd
        go_wp2
        go_round
        case rel => exact ⟨a2, b / 2, p, rfl, by go_num, rfl, hla, by omega, hp, by rw [unhide HT]; exact unhide HI⟩
        case measure => simp [intOf]; omega
    · have hb0 : b = 0 := by omega
      subst hb0
      have hRp : R = p := by have := unhide HI; rw [Nat.mul_zero, Nat.add_zero, Nat.mod_eq_of_lt hp] at this; exact this.symm
      have HP := hide hRp
      clear hRp
      go_wp2
      go_ret
      exact ⟨ret_int (by rw [unhide HP]), rfl⟩

set_option maxHeartbeats 400000 in
theorem rmix_any (x : Nat) (w : World) (hx : x < 18446744073709551616) : Calls Try.prog 47 #[.int .u64 x] w fun e w' => e = .returned (.int .u64 (Larder.mixN x : Int)) ∧ w' = w := by
  have h1 := xor_sh x 32 4294967296 (by decide) hx
  have l1 := Larder.shN_lt 32 hx
  obtain ⟨x1, hx1⟩ : ∃ y, y = Larder.shN 32 x := ⟨_, rfl⟩
  rw [← hx1] at h1 l1
  have c2 := times_any x1 15466983567672013453 w l1 (by decide)
  have l2 : x1 * 15466983567672013453 % 18446744073709551616 < 18446744073709551616 := Nat.mod_lt _ (by decide)
  obtain ⟨x2, hx2⟩ : ∃ y, y = x1 * 15466983567672013453 % 18446744073709551616 := ⟨_, rfl⟩
  rw [← hx2] at c2 l2
  have h3 := xor_sh x2 29 536870912 (by decide) l2
  have l3 := Larder.shN_lt 29 l2
  obtain ⟨x3, hx3⟩ : ∃ y, y = Larder.shN 29 x2 := ⟨_, rfl⟩
  rw [← hx3] at h3 l3
  have c4 := times_any x3 12920666929402377605 w l3 (by decide)
  have l4 : x3 * 12920666929402377605 % 18446744073709551616 < 18446744073709551616 := Nat.mod_lt _ (by decide)
  obtain ⟨x4, hx4⟩ : ∃ y, y = x3 * 12920666929402377605 % 18446744073709551616 := ⟨_, rfl⟩
  rw [← hx4] at c4 l4
  have h5 := xor_sh x4 32 4294967296 (by decide) l4
  have HM : Hid (Larder.mixN x = Larder.shN 32 x4) := by
    rw [hx4, hx3, hx2, hx1]; rfl
  rw [← unhide HM] at h5
  clear hx1 hx2 hx3 hx4
  generalize Larder.mixN x = y at *
  have n1 : ((15466983567672013453 : Nat) : Int) = 15466983567672013453 := rfl
  have n2 : ((12920666929402377605 : Nat) : Int) = 12920666929402377605 := rfl
  rw [n1] at c2
  rw [n2] at c4
  have C2 := hide c2
  have C4 := hide c4
  clear c2 c4 n1 n2
  go_enter Try.func47, Try.ntmps47
  go_wp2_with fail
  refine (unhide C2).mono ?_
  rintro e w' ⟨rfl, hw'⟩
  obtain rfl := hw'.symm
  go_wp2_with fail
  refine (unhide C4).mono ?_
  rintro e w' ⟨rfl, hw'⟩
  obtain rfl := hw'.symm
  go_wp2
  go_ret
  exact ⟨rfl, rfl⟩
end Go.Proofs.Ytochdajeocganaa
