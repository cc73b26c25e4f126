/- Contracts of Add and of the document's Add. -/
import Derived.Test.YtochdajeocganaaDoorBase
namespace Go.Proofs.YtochdajeocganaaDoor
open Go.ChangeShapes Go.WideShapes Go.ChangeAt Go.RowKit
set_option linter.unusedVariables false
set_option maxRecDepth 100000

theorem wrap_toInt (v : BitVec 64) : IntKind.i64.wrap (v.toNat : Int) = v.toInt := by
  have h := v.isLt
  rw [IntKind.wrap_i64, BitVec.toInt_eq_toNat_cond]
  split <;> omega
theorem i64_xor_toInt (x y : Int) : bits .xor .i64 x y = (BitVec.ofInt 64 x ^^^ BitVec.ofInt 64 y).toInt := wrap_toInt _
theorem i64_and_toInt (x y : Int) : bits .and .i64 x y = (BitVec.ofInt 64 x &&& BitVec.ofInt 64 y).toInt := wrap_toInt _
theorem msb_ofInt (x : Int) (h1 : -9223372036854775808 ≤ x) (h2 : x ≤ 9223372036854775807) : (BitVec.ofInt 64 x).msb = decide (x < 0) := by
  rw [BitVec.msb_eq_toInt, BitVec.toInt_ofInt]
  have e : x.bmod (2 ^ 64) = x := Int.bmod_eq_of_le (by omega) (by omega)
  rw [e]
/-- the sum's sign parts from both -/
theorem add_sign (a b s : Int) (ha1 : -9223372036854775808 ≤ a) (ha2 : a ≤ 9223372036854775807) (hb1 : -9223372036854775808 ≤ b) (hb2 : b ≤ 9223372036854775807) (hs1 : -9223372036854775808 ≤ s) (hs2 : s ≤ 9223372036854775807) :
    (bits .and .i64 (bits .xor .i64 a s) (bits .xor .i64 b s) < 0) ↔ ((a < 0 ↔ ¬ s < 0) ∧ (b < 0 ↔ ¬ s < 0)) := by
  rw [i64_and_toInt, i64_xor_toInt, i64_xor_toInt, BitVec.ofInt_toInt, BitVec.ofInt_toInt, ← decide_eq_true_iff (p := _ < (0 : Int)), ← BitVec.msb_eq_toInt, BitVec.msb_and, BitVec.msb_xor, BitVec.msb_xor,
    msb_ofInt a ha1 ha2, msb_ofInt b hb1 hb2, msb_ofInt s hs1 hs2]
  by_cases h1 : a < 0 <;> by_cases h2 : b < 0 <;> by_cases h3 : s < 0 <;> simp [h1, h2, h3]

/-- what the document asks of Add -/
def addRes (a b : Int) : Int × Nat := if -9223372036854775808 ≤ a + b ∧ a + b ≤ 9223372036854775807 then (a + b, 0) else (0, 13)

theorem add_any (a b : Int) (w : World) (ha1 : -9223372036854775808 ≤ a) (ha2 : a ≤ 9223372036854775807) (hb1 : -9223372036854775808 ≤ b) (hb2 : b ≤ 9223372036854775807) :
    Calls Tryd.prog 10 #[.int .i64 a, .int .i64 b] w fun e w' => e = .returned (.tuple #[.int .i64 (addRes a b).1, .int .i64 ((addRes a b).2 : Nat)]) ∧ w' = w := by
  have hs := add_sign a b (wrap64 (a + b)) ha1 ha2 hb1 hb2 (by unfold wrap64; omega) (by unfold wrap64; omega)
  unfold addRes
  by_cases h : -9223372036854775808 ≤ a + b ∧ a + b ≤ 9223372036854775807
  · rw [if_pos h]
    have e : wrap64 (a + b) = a + b := by unfold wrap64; omega
    have hd : decide (bits .and .i64 (bits .xor .i64 a (a + b)) (bits .xor .i64 b (a + b)) < 0) = false := by
      rw [decide_eq_false_iff_not, ← e, hs, e]; omega
    obtain ⟨h1, h2⟩ := h
    clear hs e
    go_enter Tryd.func10, Tryd.ntmps10
    go_wp2
    go_ret2
    exact ⟨rfl, rfl⟩
  · rw [if_neg h]
    have e : wrap64 (a + b) = a + b - 18446744073709551616 ∨ wrap64 (a + b) = a + b + 18446744073709551616 := by unfold wrap64; omega
    have hd : decide (bits .and .i64 (bits .xor .i64 a (wrap64 (a + b))) (bits .xor .i64 b (wrap64 (a + b))) < 0) = true := by
      rw [decide_eq_true_iff, hs]
      unfold wrap64; omega
    clear hs e
    go_enter Tryd.func10, Tryd.ntmps10
    go_wp2
    go_ret2
    exact ⟨rfl, rfl⟩
end Go.Proofs.YtochdajeocganaaDoor
