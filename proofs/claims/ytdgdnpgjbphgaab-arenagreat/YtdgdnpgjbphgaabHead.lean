/- Contracts of num, Words, byteAt, isFieldCount, Head. -/
import Derived.Test.YtdgdnpgjbphgaabRows
import Derived.Laws.OwnMore
import Derived.WalkKit
import Derived.WalkLawsBesides
import Derived.WalkSpells
import Derived.ProofKit
import Derived.OpenShut
import Derived.ShutString
import Derived.ChangeOld
import Derived.Below
import Derived.Laws.BytesArg
import Derived.Laws.BitsAllLaws
import Derived.Deep.QuietTactic
import Derived.BigQuiet
import Derived.WalkSmall
namespace Go.Proofs.Ytdgdnpgjbphgaab
open Go.ChangeShapes Go.WideShapes Go.ChangeAt Go.RowKit
set_option linter.unusedVariables false

theorem hide {p : Prop} (h : p) : Hid p := h
theorem unhide {p : Prop} (h : Hid p) : p := h.out

/-- the bytes l lie at the head of a slice with the address a -/
def Bytes (w : World) (a : Option Addr) (l : List Nat) : Prop :=
  l = [] ∨ ∃ b off, a = some ⟨b, off, none⟩ ∧ b < w.heap.size ∧ ∀ i, i < l.length → w.cell? ⟨b, off + i, none⟩ = some (.int .u8 (l.getD i 0 : Nat))

def Small (l : List Nat) : Prop := ∀ i, i < l.length → l.getD i 0 < 256

theorem Bytes.below {w w' : World} {a : Option Addr} {l : List Nat} (h : Bytes w a l) (hb : Below w.heap.size w w') : Bytes w' a l := by
  rcases h with h | ⟨b, off, rfl, hlt, hc⟩
  · exact .inl h
  · exact .inr ⟨b, off, rfl, Nat.lt_of_lt_of_le hlt hb.size, fun i hi => (hb.cell (p := ⟨b, off + i, none⟩) hlt).trans (hc i hi)⟩

theorem ret_int {k : IntKind} {a b : Int} (h : a = b) : Ending.returned (.int k a) = .returned (.int k b) := by rw [h]
theorem ret_bool {a b : Bool} (h : a = b) : Ending.returned (.bool a) = .returned (.bool b) := by rw [h]
end Go.Proofs.Ytdgdnpgjbphgaab
namespace Go.Proofs.Ytdgdnpgjbphgaab
open Go.ChangeShapes Go.WideShapes Go.ChangeAt Go.RowKit
set_option linter.unusedVariables false

theorem ret_two {k k' : IntKind} {a b a' b' : Int} (h : a = b) (h' : a' = b') : Ending.returned (.tuple #[.int k a, .int k' a']) = .returned (.tuple #[.int k b, .int k' b']) := by rw [h, h']

theorem num_any (n : Int) (w : World) : Calls Try.prog 9 #[.int .i64 n] w fun e w' => e = .returned (.int .i64 n) ∧ w' = w := by
  go_enter Try.func9, Try.ntmps9
  go_wp2
  go_ret
  exact ⟨rfl, rfl⟩

/-- how many words n bytes take -/
def wordsI (n : Int) : Int := if n < 1 then 0 else (n - 1) / 8 + 1

theorem words_any (n : Int) (w : World) (h1 : -9223372036854775808 ≤ n) (h2 : n ≤ 9223372036854775807) : Calls Try.prog 86 #[.int .i64 n] w fun e w' => e = .returned (.int .i64 (wordsI n)) ∧ w' = w := by
  by_cases h : n < 1
  · have HW : Hid (wordsI n = 0) := by unfold wordsI; rw [if_pos h]; rfl
    go_enter Try.func86, Try.ntmps86
    go_wp2
    go_ret
    exact ⟨ret_int (unhide HW).symm, rfl⟩
  · have HW : Hid (wordsI n = (n - 1) / 8 + 1) := by unfold wordsI; rw [if_neg h]; rfl
    go_enter Try.func86, Try.ntmps86
    go_wp2
    go_ret
    exact ⟨ret_int (unhide HW).symm, rfl⟩

theorem byteAt_any (n : Nat) (w : World) (h2 : n ≤ 9223372036854775807) : Calls Try.prog 87 #[.int .i64 n] w fun e w' => e = .returned (.int .i64 (8 * (n % 8) : Nat)) ∧ w' = w := by
  go_enter Try.func87, Try.ntmps87
  go_wp2
  go_ret
  exact ⟨ret_int (by omega), rfl⟩

theorem count_yes (n : Int) (w : World) (h1 : 0 ≤ n) (h2 : n ≤ 1048576) : Calls Try.prog 58 #[.int .i64 n] w fun e w' => e = .returned (.bool true) ∧ w' = w := by
  go_enter Try.func58, Try.ntmps58
  go_wp2
  go_ret
  exact ⟨ret_bool (by simp_all), rfl⟩
theorem count_no (n : Int) (w : World) (h : n < 0 ∨ 1048576 < n) : Calls Try.prog 58 #[.int .i64 n] w fun e w' => e = .returned (.bool false) ∧ w' = w := by
  rcases h with h | h
  · have hd : decide (0 ≤ n) = false := by simp; omega
    go_enter Try.func58, Try.ntmps58
    go_wp2
    go_ret
    exact ⟨rfl, rfl⟩
  · have h0 : (0 : Int) ≤ n := by omega
    go_enter Try.func58, Try.ntmps58
    go_wp2
    go_ret
    exact ⟨ret_bool (by simp; omega), rfl⟩

def Fits (k r s : Int) : Prop := 1 ≤ k ∧ k ≤ 255 ∧ 0 ≤ r ∧ r ≤ 1048576 ∧ 0 ≤ s ∧ s ≤ 1048576

theorem or_join (a b i : Nat) (ha : a < 2 ^ i) (hb : b * 2 ^ i < 18446744073709551616) (hi : a < 18446744073709551616) :
    bits BinOp.or IntKind.u64 (a : Int) ((b : Int) * 2 ^ i) = ((b * 2 ^ i + a : Nat) : Int) := by
  have e := u64_or_nat a (b * 2 ^ i) hi hb
  have j : a ||| b * 2 ^ i = b * 2 ^ i + a := by
    rw [Nat.or_comm]; exact nat_join i _ _ (Nat.mul_mod_left _ _) ha
  rw [j] at e
  rw [← e]
  congr 1

theorem or_parts (k r s : Nat) (hk : k ≤ 255) (hr : r ≤ 1048576) (hs : s ≤ 1048576) :
    bits BinOp.or IntKind.u64 (bits BinOp.or IntKind.u64 (k : Int) ((r : Int) * 256)) ((s : Int) * 4294967296) = (k : Int) + 256 * r + 4294967296 * s := by
  have e1 := or_join k r 8 (by omega) (by omega) (by omega)
  have e2 := or_join (r * 2 ^ 8 + k) s 32 (by omega) (by omega) (by omega)
  rw [show (2 : Int) ^ 8 = 256 from by decide] at e1
  rw [show (2 : Int) ^ 32 = 4294967296 from by decide] at e2
  rw [e1, e2]; omega

set_option maxHeartbeats 400000 in
theorem head_yes (k r s : Int) (w : World) (h : Fits k r s) : Calls Try.prog 18 #[.int .i64 k, .int .i64 r, .int .i64 s] w fun e w' => e = .returned (.tuple #[.int .u64 (k + 256 * r + 4294967296 * s), .int .i64 0]) ∧ w' = w := by
  obtain ⟨h1, h2, h3, h4, h5, h6⟩ := h
  have HO : Hid (bits BinOp.or IntKind.u64 (bits BinOp.or IntKind.u64 k (r * 256)) (s * 4294967296) = k + 256 * r + 4294967296 * s) := by
    obtain ⟨k, rfl⟩ := Int.eq_ofNat_of_zero_le (show 0 ≤ k by omega)
    obtain ⟨r, rfl⟩ := Int.eq_ofNat_of_zero_le h3
    obtain ⟨s, rfl⟩ := Int.eq_ofNat_of_zero_le h5
    exact or_parts k r s (by omega) (by omega) (by omega)
  go_enter Try.func18, Try.ntmps18
  go_wp2_with fail
  refine (count_yes r w h3 h4).mono ?_
  rintro e w1 ⟨rfl, rfl⟩
  go_wp2_with fail
  refine (count_yes s _ h5 h6).mono ?_
  rintro e w2 ⟨rfl, rfl⟩
  go_wp2
  go_ret2
  exact ⟨ret_two (unhide HO) rfl, rfl⟩

set_option maxHeartbeats 400000 in
theorem head_no (k r s : Int) (w : World) (h : ¬ Fits k r s) : Calls Try.prog 18 #[.int .i64 k, .int .i64 r, .int .i64 s] w fun e w' => e = .returned (.tuple #[.int .u64 0, .int .i64 10]) ∧ w' = w := by
  by_cases h1 : k < 1
  · go_enter Try.func18, Try.ntmps18
    go_wp2
    go_ret2
    exact ⟨rfl, rfl⟩
  by_cases h2 : 255 < k
  · go_enter Try.func18, Try.ntmps18
    go_wp2
    go_ret2
    exact ⟨rfl, rfl⟩
  have h1' : decide (k < 1) = false := by simp; omega
  have h2' : decide (255 < k) = false := by simp; omega
  by_cases h3 : r < 0 ∨ 1048576 < r
  · clear h
    go_enter Try.func18, Try.ntmps18
    go_wp2_with fail
    refine (count_no r w h3).mono ?_
    rintro e w1 ⟨rfl, rfl⟩
    go_wp2
    go_ret2
    exact ⟨rfl, rfl⟩
  · have h5 : s < 0 ∨ 1048576 < s := by unfold Fits at h; omega
    clear h
    go_enter Try.func18, Try.ntmps18
    go_wp2_with fail
    refine (count_yes r w (by omega) (by omega)).mono ?_
    rintro e w1 ⟨rfl, rfl⟩
    go_wp2_with fail
    refine (count_no s _ h5).mono ?_
    rintro e w2 ⟨rfl, rfl⟩
    go_wp2
    go_ret2
    exact ⟨rfl, rfl⟩

theorem and_low (x i : Nat) (hx : x < 18446744073709551616) (hi : 2 ^ i - 1 < 18446744073709551616) : bits BinOp.and IntKind.u64 (x : Int) ((2 ^ i - 1 : Nat) : Int) = ((x % 2 ^ i : Nat) : Int) := by
  have e := u64_and_nat x (2 ^ i - 1) hx hi
  rw [Nat.and_two_pow_sub_one_eq_mod] at e
  exact e

theorem wrap64_small (n : Nat) (h : n < 9223372036854775808) : wrap64 (n : Int) = (n : Int) := by
  unfold wrap64
  omega

set_option maxHeartbeats 400000 in
theorem part_8 (x : Nat) (w : World) (hx : x < 18446744073709551616) : Calls Try.prog 85 #[.int .u64 x, .int .i64 0, .int .i64 8] w fun e w' => e = .returned (.int .i64 ((x % 256 : Nat) : Int)) ∧ ∃ n, w' = w.drewN n := by
  have HA : Hid (wrap64 (bits BinOp.and IntKind.u64 (x : Int) 255) = ((x % 256 : Nat) : Int)) := by
    have e := and_low x 8 hx (by decide)
    have e2 : bits BinOp.and IntKind.u64 (x : Int) 255 = ((x % 256 : Nat) : Int) := e
    show _ = _
    rw [e2]; exact wrap64_small _ (by omega)
  go_enter Try.func85, Try.ntmps85
  go_wp2
  go_quiet (fail)
  go_wp2
  go_ret
  exact ⟨ret_int (unhide HA), _, rfl⟩

theorem mask24 (y : Nat) (z : Int) (hz : z = (y : Int)) (hy : y < 18446744073709551616) : wrap64 (bits BinOp.and IntKind.u64 z 16777215) = ((y % 16777216 : Nat) : Int) := by
  have e := and_low y 24 hy (by decide)
  have e2 : bits BinOp.and IntKind.u64 (y : Int) 16777215 = ((y % 16777216 : Nat) : Int) := e
  rw [hz, e2]; exact wrap64_small _ (by omega)

set_option maxHeartbeats 400000 in
theorem part_24 (x : Nat) (w : World) (hx : x < 18446744073709551616) : Calls Try.prog 85 #[.int .u64 x, .int .i64 8, .int .i64 24] w fun e w' => e = .returned (.int .i64 ((x / 256 % 16777216 : Nat) : Int)) ∧ ∃ n, w' = w.drewN n := by
  have HA := hide (mask24 (x / 256) ((x : Int) / 256) (by omega) (by omega))
  go_enter Try.func85, Try.ntmps85
  go_wp2
  go_quiet (fail)
  go_wp2
  go_ret
  exact ⟨ret_int (unhide HA), _, rfl⟩

set_option maxHeartbeats 400000 in
theorem part_32 (x : Nat) (w : World) (hx : x < 18446744073709551616) : Calls Try.prog 85 #[.int .u64 x, .int .i64 32, .int .i64 24] w fun e w' => e = .returned (.int .i64 ((x / 4294967296 % 16777216 : Nat) : Int)) ∧ ∃ n, w' = w.drewN n := by
  have HA := hide (mask24 (x / 4294967296) ((x : Int) / 4294967296) (by omega) (by omega))
  go_enter Try.func85, Try.ntmps85
  go_wp2
  go_quiet (fail)
  go_wp2
  go_ret
  exact ⟨ret_int (unhide HA), _, rfl⟩

/-- is the word a header? -/
def IsHead (x : Nat) : Prop := Fits (x % 256 : Nat) (x / 256 % 16777216 : Nat) (x / 4294967296 % 16777216 : Nat) ∧ x < 72057594037927936

set_option maxHeartbeats 400000 in
theorem split_any (x : Nat) (w : World) (hx : x < 18446744073709551616) : Calls Try.prog 64 #[.int .u64 x] w fun e w' => Below w.heap.size w w' ∧
    ((IsHead x ∧ e = .returned (.tuple #[.int .i64 (x % 256 : Nat), .int .i64 (x / 256 % 16777216 : Nat), .int .i64 (x / 4294967296 % 16777216 : Nat), .int .i64 0])) ∨
     (¬ IsHead x ∧ e = .returned (.tuple #[.int .i64 0, .int .i64 0, .int .i64 0, .int .i64 10]))) := by
  go_enter Try.func64, Try.ntmps64
  go_wp2_with fail
  refine (part_8 x w hx).mono ?_
  rintro e w1 ⟨rfl, n1, rfl⟩
  go_wp2_with fail
  refine (part_24 x _ hx).mono ?_
  rintro e w1 ⟨rfl, n2, rfl⟩
  go_wp2_with fail
  refine (part_32 x _ hx).mono ?_
  rintro e w1 ⟨rfl, n3, rfl⟩
  go_wp2_with fail
  by_cases hf : Fits (x % 256 : Nat) (x / 256 % 16777216 : Nat) (x / 4294967296 % 16777216 : Nat)
  · refine (head_yes _ _ _ _ hf).mono ?_
    rintro e w1 ⟨rfl, rfl⟩
    obtain ⟨h1, h2, h3, h4, h5, h6⟩ := hf
    by_cases hlt : x < 72057594037927936
    · have hb : (((x % 256 : Nat) : Int) + 256 * ((x / 256 % 16777216 : Nat) : Int) + 4294967296 * ((x / 4294967296 % 16777216 : Nat) : Int) == (x : Int)) = true := by rw [beq_iff_eq]; omega
      go_wp2
      exact bodyPost_ret (v := .tuple #[.int .i64 (x % 256 : Nat), .int .i64 (x / 256 % 16777216 : Nat), .int .i64 (x / 4294967296 % 16777216 : Nat), .int .i64 0]) (by simp [results, Try.results64, go_sem]) rfl ⟨below_drewN (Below.refl _ _) _, .inl ⟨⟨⟨h1, h2, h3, h4, h5, h6⟩, hlt⟩, rfl⟩⟩
    · have hb : (((x % 256 : Nat) : Int) + 256 * ((x / 256 % 16777216 : Nat) : Int) + 4294967296 * ((x / 4294967296 % 16777216 : Nat) : Int) == (x : Int)) = false := by rw [beq_eq_false_iff_ne]; omega
      go_wp2
      exact bodyPost_ret (v := .tuple #[.int .i64 0, .int .i64 0, .int .i64 0, .int .i64 10]) (by simp [results, Try.results64, go_sem]) rfl ⟨below_drewN (Below.refl _ _) _, .inr ⟨fun h => hlt h.2, rfl⟩⟩
  · refine (head_no _ _ _ _ hf).mono ?_
    rintro e w1 ⟨rfl, rfl⟩
    have HF := hide hf
    clear hf
    go_wp2
    exact bodyPost_ret (v := .tuple #[.int .i64 0, .int .i64 0, .int .i64 0, .int .i64 10]) (by simp [results, Try.results64, go_sem]) rfl ⟨below_drewN (Below.refl _ _) _, .inr ⟨fun h => unhide HF h.1, rfl⟩⟩
end Go.Proofs.Ytdgdnpgjbphgaab
