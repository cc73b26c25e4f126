/- within, name, num. -/
import Derived.Test.YtjmnddcombepaaaPpl
import Derived.Laws.Concat
namespace Go.Proofs.Ytjmnddcombepaaa
open Go.ChangeShapes Go.WideShapes Go.ChangeAt Go.RowKit Go.Maps Go.Sort
set_option linter.unusedVariables false
set_option linter.unusedSimpArgs false
set_option maxRecDepth 100000
set_option maxHeartbeats 4000000

theorem num_any (w : World) (e0 : Int) : Calls Try.prog 12 #[.int .i64 e0] w fun e w' => e = .returned (.int .i64 e0) ∧ w' = w := by
  go_enter Try.func12, Try.ntmps12
  go_wp2
  go_ret
  exact ⟨rfl, rfl⟩
theorem mod_fact (n : Int) (m : Int) (hm : 0 < m) : (n.tmod m + m).tmod m = n % m := by
  have h1 : n.tmod m = n - m * n.tdiv m := by have := Int.tmod_add_mul_tdiv n m; omega
  have h2 : -m < n.tmod m := by
    rcases Int.le_total 0 n with h | h
    · have := Int.tmod_nonneg m h; omega
    · have := Int.neg_tmod n m
      have h3 := Int.tmod_lt_of_pos (-n) hm
      have h4 := Int.tmod_nonneg (a := -n) m (by omega)
      rw [Int.neg_tmod] at h3 h4
      omega
  have h3 : n.tmod m < m := Int.tmod_lt_of_pos n hm
  rw [Int.tmod_eq_emod_of_nonneg (by omega), Int.add_emod_right, h1, Int.sub_mul_emod_self_left]
theorem within8 (w : World) (n : Int) (hn : -9223372036854775808 ≤ n ∧ n ≤ 9223372036854775807) : Calls Try.prog 9 #[.int .i64 n, .int .i64 8] w fun e w' => e = .returned (.int .i64 (n % 8)) ∧ w' = w := by
  have h2 : -8 ≤ n.tmod 8 ∧ n.tmod 8 ≤ 8 := by
    have h3 := Int.tmod_lt_of_pos n (show (0 : Int) < 8 by decide)
    have h4 : -8 < n.tmod 8 := by
      rcases Int.le_total 0 n with h | h
      · have := Int.tmod_nonneg 8 h; omega
      · have h3 := Int.tmod_lt_of_pos (-n) (show (0 : Int) < 8 by decide)
        rw [Int.neg_tmod] at h3
        omega
    omega
  have H : Hid ((n.tmod 8 + 8) % 8 = n % 8) := hide (by
    have h := mod_fact n 8 (by decide)
    rw [Int.tmod_eq_emod_of_nonneg (by omega)] at h
    exact h)
  have hw : wrap64 (n.tmod 8 + 8) = n.tmod 8 + 8 := by unfold wrap64; omega
  have hw1 : wrap64 (n.tmod 8) = n.tmod 8 := by unfold wrap64; omega
  go_enter Try.func9, Try.ntmps9
  go_wp2
  go_ret
  exact ⟨congrArg (fun z => Ending.returned (.int .i64 z)) (unhide H), rfl⟩
theorem within32 (w : World) (n : Int) (hn : -9223372036854775808 ≤ n ∧ n ≤ 9223372036854775807) : Calls Try.prog 9 #[.int .i64 n, .int .i64 32] w fun e w' => e = .returned (.int .i64 (n % 32)) ∧ w' = w := by
  have h2 : -32 ≤ n.tmod 32 ∧ n.tmod 32 ≤ 32 := by
    have h3 := Int.tmod_lt_of_pos n (show (0 : Int) < 32 by decide)
    have h4 : -32 < n.tmod 32 := by
      rcases Int.le_total 0 n with h | h
      · have := Int.tmod_nonneg 32 h; omega
      · have h3 := Int.tmod_lt_of_pos (-n) (show (0 : Int) < 32 by decide)
        rw [Int.neg_tmod] at h3
        omega
    omega
  have H : Hid ((n.tmod 32 + 32) % 32 = n % 32) := hide (by
    have h := mod_fact n 32 (by decide)
    rw [Int.tmod_eq_emod_of_nonneg (by omega)] at h
    exact h)
  have hw : wrap64 (n.tmod 32 + 32) = n.tmod 32 + 32 := by unfold wrap64; omega
  have hw1 : wrap64 (n.tmod 32) = n.tmod 32 := by unfold wrap64; omega
  go_enter Try.func9, Try.ntmps9
  go_wp2
  go_ret
  exact ⟨congrArg (fun z => Ending.returned (.int .i64 z)) (unhide H), rfl⟩
theorem name_any (w : World) (i : Nat) (hi : i ≤ 1000) : Calls Try.prog 11 #[.int .i64 (i : Nat)] w fun e w' => e = .returned (.string (bs (nameL i))) ∧ Hid (Below w.heap.size w w') := by
  have h1 : i % 26 < 26 := Nat.mod_lt _ (by decide)
  have h2 : i / 26 % 26 < 26 := Nat.mod_lt _ (by decide)
  have hcv : (convert 23 9 (.slice (some ⟨w.heap.size, 0, none⟩) 2 2)).run Try.prog (w.alloc (.cells #[.int .u8 (97 + (i : Int) % 26), .int .u8 (97 + (i : Int) / 26 % 26)] 5)) = .ok (.string ⟨[UInt8.ofNat (97 + i % 26), UInt8.ofNat (97 + i / 26 % 26)].toArray⟩) (w.alloc (.cells #[.int .u8 (97 + (i : Int) % 26), .int .u8 (97 + (i : Int) / 26 % 26)] 5)) := by
    have hb : Bytes (w.alloc (.cells #[.int .u8 (97 + (i : Int) % 26), .int .u8 (97 + (i : Int) / 26 % 26)] 5)) (some ⟨w.heap.size, 0, none⟩) [97 + i % 26, 97 + i / 26 % 26] := by
      have hn := heap_alloc_new w (.cells #[.int .u8 (97 + (i : Int) % 26), .int .u8 (97 + (i : Int) / 26 % 26)] 5)
      refine .inr ⟨w.heap.size, 0, rfl, by simp, fun j hj => ?_⟩
      rw [Nat.zero_add, cell_blk hn]
      match j, hj with
      | 0, _ => simp
      | 1, _ => simp
      | j + 2, hj => exact absurd hj (by simp only [List.length_cons, List.length_nil]; omega)
    have h := conv_any (some ⟨w.heap.size, 0, none⟩) 2 _ _ hb
    exact h
  have hadd : ∀ W, (Op.stringOp .add ⟨#[110]⟩ ⟨[UInt8.ofNat (97 + i % 26), UInt8.ofNat (97 + i / 26 % 26)].toArray⟩).run Try.prog W = .ok (.string (bs (nameL i))) W := fun W => run_string_add_lists (P := Try.prog) (w := W) [110] [UInt8.ofNat (97 + i % 26), UInt8.ofNat (97 + i / 26 % 26)] (by simp) (by simp)
  have HB : Hid (Below w.heap.size w (w.alloc (.cells #[.int .u8 (97 + (i : Int) % 26), .int .u8 (97 + (i : Int) / 26 % 26)] 5))) := hide ((Below.refl _ _).alloc (Nat.le_refl _) _)
  generalize (⟨[UInt8.ofNat (97 + i % 26), UInt8.ofNat (97 + i / 26 % 26)].toArray⟩ : ByteArray) = Y at hcv hadd
  generalize hR : bs (nameL i) = R at hadd ⊢
  clear hR
  go_enter Try.func11, Try.ntmps11
  go_wp2
  go_ret
  exact ⟨rfl, HB⟩
end Go.Proofs.Ytjmnddcombepaaa
