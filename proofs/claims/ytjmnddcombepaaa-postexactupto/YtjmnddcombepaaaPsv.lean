/- Seats in memory: fit, same. -/
import Derived.Test.YtjmnddcombepaaaPsm
import Derived.Laws.Concat
import Derived.Test.YtjmnddcombepaaaPal
namespace Go.Proofs.Ytjmnddcombepaaa
open Go.ChangeShapes Go.WideShapes Go.ChangeAt Go.RowKit Go.Maps Go.Sort
set_option linter.unusedVariables false
set_option linter.unusedSimpArgs false
set_option maxRecDepth 100000
set_option maxHeartbeats 4000000

theorem num_any (w : World) (e0 : Int) : Calls Try.prog 12 #[.int .i64 e0] w fun e w' => e = .returned (.int .i64 e0) ∧ w' = w := by
  go_enter Try.func12, Try.ntmps12
  go_wp2
  go_ret
  exact ⟨rfl, rfl⟩
theorem mod_fact (n : Int) (m : Int) (hm : 0 < m) : (n.tmod m + m).tmod m = n % m := by
  have h1 : n.tmod m = n - m * n.tdiv m := by have := Int.tmod_add_mul_tdiv n m; omega
  have h2 : -m < n.tmod m := by
    rcases Int.le_total 0 n with h | h
    · have := Int.tmod_nonneg m h; omega
    · have := Int.neg_tmod n m
      have h3 := Int.tmod_lt_of_pos (-n) hm
      have h4 := Int.tmod_nonneg (a := -n) m (by omega)
      rw [Int.neg_tmod] at h3 h4
      omega
  have h3 : n.tmod m < m := Int.tmod_lt_of_pos n hm
  rw [Int.tmod_eq_emod_of_nonneg (by omega), Int.add_emod_right, h1, Int.sub_mul_emod_self_left]
theorem within8 (w : World) (n : Int) (hn : -9223372036854775808 ≤ n ∧ n ≤ 9223372036854775807) : Calls Try.prog 9 #[.int .i64 n, .int .i64 8] w fun e w' => e = .returned (.int .i64 (n % 8)) ∧ w' = w := by
  have h2 : -8 ≤ n.tmod 8 ∧ n.tmod 8 ≤ 8 := by
    have h3 := Int.tmod_lt_of_pos n (show (0 : Int) < 8 by decide)
    have h4 : -8 < n.tmod 8 := by
      rcases Int.le_total 0 n with h | h
      · have := Int.tmod_nonneg 8 h; omega
      · have h3 := Int.tmod_lt_of_pos (-n) (show (0 : Int) < 8 by decide)
        rw [Int.neg_tmod] at h3
        omega
    omega
  have H : Hid ((n.tmod 8 + 8) % 8 = n % 8) := hide (by
    have h := mod_fact n 8 (by decide)
    rw [Int.tmod_eq_emod_of_nonneg (by omega)] at h
    exact h)
  have hw : wrap64 (n.tmod 8 + 8) = n.tmod 8 + 8 := by unfold wrap64; omega
  have hw1 : wrap64 (n.tmod 8) = n.tmod 8 := by unfold wrap64; omega
  go_enter Try.func9, Try.ntmps9
  go_wp2
  go_ret
  exact ⟨congrArg (fun z => Ending.returned (.int .i64 z)) (unhide H), rfl⟩
theorem within32 (w : World) (n : Int) (hn : -9223372036854775808 ≤ n ∧ n ≤ 9223372036854775807) : Calls Try.prog 9 #[.int .i64 n, .int .i64 32] w fun e w' => e = .returned (.int .i64 (n % 32)) ∧ w' = w := by
  have h2 : -32 ≤ n.tmod 32 ∧ n.tmod 32 ≤ 32 := by
    have h3 := Int.tmod_lt_of_pos n (show (0 : Int) < 32 by decide)
    have h4 : -32 < n.tmod 32 := by
      rcases Int.le_total 0 n with h | h
      · have := Int.tmod_nonneg 32 h; omega
      · have h3 := Int.tmod_lt_of_pos (-n) (show (0 : Int) < 32 by decide)
        rw [Int.neg_tmod] at h3
        omega
    omega
  have H : Hid ((n.tmod 32 + 32) % 32 = n % 32) := hide (by
    have h := mod_fact n 32 (by decide)
    rw [Int.tmod_eq_emod_of_nonneg (by omega)] at h
    exact h)
  have hw : wrap64 (n.tmod 32 + 32) = n.tmod 32 + 32 := by unfold wrap64; omega
  have hw1 : wrap64 (n.tmod 32) = n.tmod 32 := by unfold wrap64; omega
  go_enter Try.func9, Try.ntmps9
  go_wp2
  go_ret
  exact ⟨congrArg (fun z => Ending.returned (.int .i64 z)) (unhide H), rfl⟩
theorem name_any (w : World) (i : Nat) (hi : i ≤ 1000) : Calls Try.prog 11 #[.int .i64 (i : Nat)] w fun e w' => e = .returned (.string (bs (nameL i))) ∧ Hid (Below w.heap.size w w') := by
  have h1 : i % 26 < 26 := Nat.mod_lt _ (by decide)
  have h2 : i / 26 % 26 < 26 := Nat.mod_lt _ (by decide)
  have hcv : (convert 23 9 (.slice (some ⟨w.heap.size, 0, none⟩) 2 2)).run Try.prog (w.alloc (.cells #[.int .u8 (97 + (i : Int) % 26), .int .u8 (97 + (i : Int) / 26 % 26)] 5)) = .ok (.string ⟨[UInt8.ofNat (97 + i % 26), UInt8.ofNat (97 + i / 26 % 26)].toArray⟩) (w.alloc (.cells #[.int .u8 (97 + (i : Int) % 26), .int .u8 (97 + (i : Int) / 26 % 26)] 5)) := by
    have hb : Bytes (w.alloc (.cells #[.int .u8 (97 + (i : Int) % 26), .int .u8 (97 + (i : Int) / 26 % 26)] 5)) (some ⟨w.heap.size, 0, none⟩) [97 + i % 26, 97 + i / 26 % 26] := by
      have hn := heap_alloc_new w (.cells #[.int .u8 (97 + (i : Int) % 26), .int .u8 (97 + (i : Int) / 26 % 26)] 5)
      refine .inr ⟨w.heap.size, 0, rfl, by simp, fun j hj => ?_⟩
      rw [Nat.zero_add, cell_blk hn]
      match j, hj with
      | 0, _ => simp
      | 1, _ => simp
      | j + 2, hj => exact absurd hj (by simp only [List.length_cons, List.length_nil]; omega)
    have h := conv_any (some ⟨w.heap.size, 0, none⟩) 2 _ _ hb
    exact h
  have hadd : ∀ W, (Op.stringOp .add ⟨#[110]⟩ ⟨[UInt8.ofNat (97 + i % 26), UInt8.ofNat (97 + i / 26 % 26)].toArray⟩).run Try.prog W = .ok (.string (bs (nameL i))) W := fun W => run_string_add_lists (P := Try.prog) (w := W) [110] [UInt8.ofNat (97 + i % 26), UInt8.ofNat (97 + i / 26 % 26)] (by simp) (by simp)
  have HB : Hid (Below w.heap.size w (w.alloc (.cells #[.int .u8 (97 + (i : Int) % 26), .int .u8 (97 + (i : Int) / 26 % 26)] 5))) := hide ((Below.refl _ _).alloc (Nat.le_refl _) _)
  generalize (⟨[UInt8.ofNat (97 + i % 26), UInt8.ofNat (97 + i / 26 % 26)].toArray⟩ : ByteArray) = Y at hcv hadd
  generalize hR : bs (nameL i) = R at hadd ⊢
  clear hR
  go_enter Try.func11, Try.ntmps11
  go_wp2
  go_ret
  exact ⟨rfl, HB⟩
end Go.Proofs.Ytjmnddcombepaaa
namespace Go.Proofs.Ytjmnddcombepaaa
open Go.ChangeShapes Go.WideShapes Go.ChangeAt Go.RowKit Go.Maps Go.Sort
set_option linter.unusedVariables false
set_option linter.unusedSimpArgs false
set_option maxRecDepth 100000
set_option maxHeartbeats 8000000

/-- a seat and where its name lies -/
abbrev Sv := Key × Option Addr × Nat
def seatC (x : Sv) : List Value := [.int .i64 x.1.1, .slice x.2.1 x.1.2.1.length x.2.2, .bool x.1.2.2]
def Named (w : World) (x : Sv) : Prop := Bytes w x.2.1 (nb x.1.2.1)
def fitV (x : Sv) : Sv := ((x.1.1 % 8, x.1.2.1.take 64, x.1.2.2), x.2.1, x.2.2)
theorem fitV_short {x : Sv} (h : ¬ 64 < x.1.2.1.length) : fitV x = ((x.1.1 % 8, x.1.2.1, x.1.2.2), x.2.1, x.2.2) := by
  unfold fitV
  rw [List.take_of_length_le (by omega)]
theorem fit_res (w : World) (o : Obj) (v0 v1 v2 : Value) (tmps : Array Value) (ht : tmps.getD 2 undef = .pointer (some ⟨w.heap.size + 1, 0, none⟩)) :
    (results Try.f34 tmps).run Try.prog ((w.alloc o).alloc (.cells #[v0, v1, v2] 40)).drew = .ok (.agg #[v0, v1, v2]) ((w.alloc o).alloc (.cells #[v0, v1, v2] 40)).drew := by
  refine results_cell_row (p := 2) (ty := 40) rfl tmps _ (w.heap.size + 1) 40 _ (0, 0) _ ht ?_ Try.underlying40 rfl (by kernel_rfl)
  have h := heap_alloc_new (w.alloc o) (.cells #[v0, v1, v2] 40)
  have s1 : (w.alloc o).heap.size = w.heap.size + 1 := by simp
  rw [s1] at h
  exact h
theorem fit_any (w : World) (c : Int) (a : Option Addr) (n cap : Nat) (p : Bool) (hn : -9223372036854775808 ≤ c ∧ c ≤ 9223372036854775807) (hc : n ≤ cap) (hnn : n ≤ 9223372036854775807) :
    Calls Try.prog 34 #[.agg #[.int .i64 c, .slice a n cap, .bool p]] w fun e w' => e = .returned (.agg #[.int .i64 (c % 8), .slice a (min 64 n) cap, .bool p]) ∧ Hid (Below w.heap.size w w') := by
  have CW : Hid (∀ w', Calls Try.prog 9 #[.int .i64 c, .int .i64 8] w' fun e w2 => e = .returned (.int .i64 (c % 8)) ∧ w2 = w') := hide (fun w' => within8 w' c hn)
  clear hn
  by_cases h : 64 < n
  · have f1 : decide ((64 : Int) < (n : Int)) = true := decide_eq_true (by omega)
    rw [show min 64 n = 64 by omega]
    have f2 : (64 : Nat) ≤ cap := by omega
    go_enter Try.func34, Try.ntmps34
    go_wp2_with fail
    go_region_held3 (fun w' => w'.cell? ⟨w.heap.size, 0, none⟩ = some (.int .i64 c) ∧ w'.cell? ⟨w.heap.size, 2, none⟩ = some (.bool p)) (go_keep) (first | (go_at_call 9; with_reducible refine (unhide CW _).mono ?_; rintro e w55 ⟨rfl, h55⟩; obtain rfl := h55.symm))
    go_wp2
    refine bodyPost_ret (fit_res w _ _ _ _ _ rfl) rfl ?_
    exact ⟨rfl, hide (((Below.refl _ _).alloc (Nat.le_refl _) _).alloc (by simp) _).drew⟩
  · have f1 : decide ((64 : Int) < (n : Int)) = false := decide_eq_false (by omega)
    rw [show min 64 n = n by omega]
    go_enter Try.func34, Try.ntmps34
    go_wp2_with fail
    go_region_held3 (fun w' => w'.cell? ⟨w.heap.size, 0, none⟩ = some (.int .i64 c) ∧ w'.cell? ⟨w.heap.size, 2, none⟩ = some (.bool p)) (go_keep) (first | (go_at_call 9; with_reducible refine (unhide CW _).mono ?_; rintro e w55 ⟨rfl, h55⟩; obtain rfl := h55.symm))
    go_wp2
    refine bodyPost_ret (fit_res w _ _ _ _ _ rfl) rfl ?_
    exact ⟨rfl, hide (((Below.refl _ _).alloc (Nat.le_refl _) _).alloc (by simp) _).drew⟩
theorem key3 (c : Int) (T T' : List UInt8) (p : Bool) : ((bs T).toList == (bs T').toList) = decide (((c, T, p) : Key) = (c, T', p)) := by
  rw [ByteArray.toList_eq, ByteArray.toList_eq, bs_list, bs_list, Bool.eq_iff_iff]
  simp
theorem same_any (w : World) (x y : Sv) (hx : Named w x) (hy : Named w y) :
    Calls Try.prog 35 #[.agg #[.int .i64 x.1.1, .slice x.2.1 x.1.2.1.length x.2.2, .bool x.1.2.2], .agg #[.int .i64 y.1.1, .slice y.2.1 y.1.2.1.length y.2.2, .bool y.1.2.2]] w fun e w' => e = .returned (.bool (decide (x.1 = y.1))) ∧ Hid (Below w.heap.size w w') := by
  obtain ⟨⟨c, T, p⟩, a, cap⟩ := x
  obtain ⟨⟨c', T', p'⟩, a', cap'⟩ := y
  simp only [Named] at hx hy ⊢
  have hb : Below w.heap.size w ((w.alloc (.cells #[.int .i64 c, .slice a T.length cap, .bool p] 40)).alloc (.cells #[.int .i64 c', .slice a' T'.length cap', .bool p'] 40)) := ((Below.refl _ _).alloc (Nat.le_refl _) _).alloc (by simp) _
  have R1 := conv_back _ a cap T (hx.below hb)
  have R2 := conv_back _ a' cap' T' (hy.below hb)
  have HB := hide hb
  clear hx hy hb
  generalize hn : T.length = n at *
  generalize hn' : T'.length = n' at *
  clear hn hn'
  by_cases h1 : c = c'
  · subst h1
    by_cases h2 : p = p'
    · subst h2
      go_enter Try.func35, Try.ntmps35
      go_wp2_with fail
      go_ret
      exact ⟨by rw [key3 c T T' p]; rfl, HB⟩
    · have f1 : (p == p') = false := by simpa using h2
      go_enter Try.func35, Try.ntmps35
      go_wp2_with fail
      go_ret
      exact ⟨by rw [decide_eq_false (fun h => h2 (congrArg (fun k : Key => k.2.2) h))]; rfl, HB⟩
  · have f1 : (c == c') = false := by simpa using h1
    go_enter Try.func35, Try.ntmps35
    go_wp2_with fail
    go_ret
    exact ⟨by rw [decide_eq_false (fun h => h1 (congrArg (fun k : Key => k.1) h))]; rfl, HB⟩
end Go.Proofs.Ytjmnddcombepaaa
