/- Contracts of the document's Head and Split, of headers; the loop of upTo for these kinds. -/
import Derived.Test.YtochdajeocganabDoorHead
namespace Go.Proofs.YtochdajeocganabDoor
open Go.ChangeShapes Go.WideShapes Go.ChangeAt Go.RowKit
set_option linter.unusedVariables false

theorem rhead_yes (k r s : Int) (w : World) (h : Fits k r s) : Calls Tryd.prog 49 #[.int .i64 k, .int .i64 r, .int .i64 s] w fun e w' => e = .returned (.tuple #[.int .u64 (k + 256 * r + 4294967296 * s), .int .i64 0]) ∧ w' = w := by
  obtain ⟨h1, h2, h3, h4, h5, h6⟩ := h
  go_enter Tryd.func49, Tryd.ntmps49
  go_wp2
  go_ret2
  exact ⟨ret_two (by omega) rfl, rfl⟩

theorem rhead_no (k r s : Int) (w : World) (h : ¬ Fits k r s) : Calls Tryd.prog 49 #[.int .i64 k, .int .i64 r, .int .i64 s] w fun e w' => e = .returned (.tuple #[.int .u64 0, .int .i64 10]) ∧ w' = w := by
  by_cases h1 : k < 1
  · go_enter Tryd.func49, Tryd.ntmps49
    go_wp2
    go_ret2
    exact ⟨rfl, rfl⟩
  by_cases h2 : 255 < k
  · go_enter Tryd.func49, Tryd.ntmps49
    go_wp2
    go_ret2
    exact ⟨rfl, rfl⟩
  by_cases h3 : r < 0
  · go_enter Tryd.func49, Tryd.ntmps49
    go_wp2
    go_ret2
    exact ⟨rfl, rfl⟩
  by_cases h4 : 1048576 < r
  · go_enter Tryd.func49, Tryd.ntmps49
    go_wp2
    go_ret2
    exact ⟨rfl, rfl⟩
  by_cases h5 : s < 0
  · go_enter Tryd.func49, Tryd.ntmps49
    go_wp2
    go_ret2
    exact ⟨rfl, rfl⟩
  have h6 : 1048576 < s := by unfold Fits at h; omega
  clear h
  go_enter Tryd.func49, Tryd.ntmps49
  go_wp2
  go_ret2
  exact ⟨rfl, rfl⟩

theorem split_yes (x : Nat) (w : World) (hx : x < 18446744073709551616) (h : IsHead x) : Calls Tryd.prog 51 #[.int .u64 x] w fun e w' => Below w.heap.size w w' ∧ e = .returned (.tuple #[.int .i64 (x % 256 : Nat), .int .i64 (x / 256 % 16777216 : Nat), .int .i64 (x / 4294967296 % 16777216 : Nat), .int .i64 0]) := by
  refine (split_any x w hx).mono ?_
  rintro e w' ⟨hb, h'⟩
  rcases h' with ⟨_, he⟩ | ⟨hn, _⟩
  · exact ⟨hb, he⟩
  · exact absurd h hn
theorem split_no (x : Nat) (w : World) (hx : x < 18446744073709551616) (h : ¬ IsHead x) : Calls Tryd.prog 51 #[.int .u64 x] w fun e w' => Below w.heap.size w w' ∧ e = .returned (.tuple #[.int .i64 0, .int .i64 0, .int .i64 0, .int .i64 10]) := by
  refine (split_any x w hx).mono ?_
  rintro e w' ⟨hb, h'⟩
  rcases h' with ⟨hn, _⟩ | ⟨_, he⟩
  · exact absurd hn h
  · exact ⟨hb, he⟩

set_option maxHeartbeats 400000 in
theorem rsplit_yes (x : Nat) (w : World) (hx : x < 18446744073709551616) (h : IsHead x) : Calls Tryd.prog 52 #[.int .u64 x] w fun e w' => w' = w ∧ e = .returned (.tuple #[.int .i64 (x % 256 : Nat), .int .i64 (x / 256 % 16777216 : Nat), .int .i64 (x / 4294967296 % 16777216 : Nat), .int .i64 0]) := by
  obtain ⟨hf, hlt⟩ := h
  obtain ⟨k, hk⟩ : ∃ k, k = x % 256 := ⟨_, rfl⟩
  obtain ⟨r, hr⟩ : ∃ r, r = x / 256 % 16777216 := ⟨_, rfl⟩
  obtain ⟨s, hss⟩ : ∃ s, s = x / 4294967296 % 16777216 := ⟨_, rfl⟩
  rw [← hk, ← hr, ← hss] at hf ⊢
  have e1 : (x : Int) % 256 = (k : Int) := by omega
  have e2 : (x : Int) / 256 % 16777216 = (r : Int) := by omega
  have e3 : (x : Int) / 4294967296 % 16777216 = (s : Int) := by omega
  have ee : (k : Int) + 256 * (r : Int) + 4294967296 * (s : Int) = (x : Int) := by omega
  have hk2 : k < 256 := by omega
  have hr2 : r < 16777216 := by omega
  have hs2 : s < 16777216 := by omega
  have hcall := rhead_yes k r s w hf
  rw [ee] at hcall
  have HC := hide hcall
  clear hcall ee hf hk hr hss
  go_enter Tryd.func52, Tryd.ntmps52
  go_wp2_with fail
  refine (unhide HC).mono ?_
  rintro e w' ⟨rfl, hw'⟩
  obtain rfl := hw'.symm
  go_wp2
  exact bodyPost_ret (v := .tuple #[.int .i64 (k : Int), .int .i64 (r : Int), .int .i64 (s : Int), .int .i64 0]) (by simp [results, Tryd.results52, go_sem]) rfl ⟨rfl, rfl⟩

set_option maxHeartbeats 400000 in
theorem rsplit_no (x : Nat) (w : World) (hx : x < 18446744073709551616) (h : ¬ IsHead x) : Calls Tryd.prog 52 #[.int .u64 x] w fun e w' => w' = w ∧ e = .returned (.tuple #[.int .i64 0, .int .i64 0, .int .i64 0, .int .i64 10]) := by
  obtain ⟨k, hk⟩ : ∃ k, k = x % 256 := ⟨_, rfl⟩
  obtain ⟨r, hr⟩ : ∃ r, r = x / 256 % 16777216 := ⟨_, rfl⟩
  obtain ⟨s, hss⟩ : ∃ s, s = x / 4294967296 % 16777216 := ⟨_, rfl⟩
  have e1 : (x : Int) % 256 = (k : Int) := by omega
  have e2 : (x : Int) / 256 % 16777216 = (r : Int) := by omega
  have e3 : (x : Int) / 4294967296 % 16777216 = (s : Int) := by omega
  have hk2 : k < 256 := by omega
  have hr2 : r < 16777216 := by omega
  have hs2 : s < 16777216 := by omega
  by_cases hf : Fits k r s
  · have hne : ((k : Int) + 256 * (r : Int) + 4294967296 * (s : Int) != (x : Int)) = true := by
      rw [bne_iff_ne]
      intro he
      apply h
      refine ⟨?_, by omega⟩
      rw [← hk, ← hr, ← hss]; exact hf
    have HC := hide (rhead_yes k r s w hf)
    obtain ⟨y, hy⟩ : ∃ y, y = (k : Int) + 256 * (r : Int) + 4294967296 * (s : Int) := ⟨_, rfl⟩
    rw [← hy] at hne HC
    clear hf hk hr hss h hy
    go_enter Tryd.func52, Tryd.ntmps52
    go_wp2_with fail
    refine (unhide HC).mono ?_
    rintro e w' ⟨rfl, hw'⟩
    obtain rfl := hw'.symm
    go_wp2
    exact bodyPost_ret (v := .tuple #[.int .i64 0, .int .i64 0, .int .i64 0, .int .i64 10]) (by simp [results, Tryd.results52, go_sem]) rfl ⟨rfl, rfl⟩
  · have HC := hide (rhead_no k r s w hf)
    clear hf hk hr hss h
    go_enter Tryd.func52, Tryd.ntmps52
    go_wp2_with fail
    refine (unhide HC).mono ?_
    rintro e w' ⟨rfl, hw'⟩
    obtain rfl := hw'.symm
    go_wp2
    exact bodyPost_ret (v := .tuple #[.int .i64 0, .int .i64 0, .int .i64 0, .int .i64 10]) (by simp [results, Tryd.results52, go_sem]) rfl ⟨rfl, rfl⟩

theorem field_at {w wx : World} {C : Array Value} {t : TypeId} (hb : Below (w.alloc (.cells C t)).heap.size (w.alloc (.cells C t)) wx) (j : Nat) : wx.cell? ⟨w.heap.size, j, none⟩ = C[j]? := by
  rw [hb.cell (by simp)]; simp
theorem chain {B : Nat} {a b c : World} (h : Below B a b) (k : Below b.heap.size b c) (hB : B ≤ b.heap.size) : Below B a c := h.trans (k.mono hB)

set_option maxHeartbeats 1000000 in
theorem headers_head (A B C N M : Int) (x : Nat) (vT vW : Value) (w : World) :
    Calls Tryd.prog 30 #[.agg #[.int .i64 1, .int .i64 A, .int .i64 B, .int .i64 C, .int .i64 N, .int .i64 M, .int .u64 x, vT, vW]] w fun e w' => e = .returned (.bool true) ∧ Below w.heap.size w w' := by
  have hb0 : Below w.heap.size w (w.alloc (.cells #[.int .i64 1, .int .i64 A, .int .i64 B, .int .i64 C, .int .i64 N, .int .i64 M, .int .u64 x, vT, vW] 49)) := (Below.refl _ _).alloc (Nat.le_refl _) _
  by_cases hf : Fits A B C
  · go_enter Tryd.func30, Tryd.ntmps30
    go_wp2_with fail
    refine (head_yes A B C _ hf).mono ?_
    rintro e w' ⟨rfl, hw'⟩
    obtain rfl := hw'.symm
    go_wp2_with fail
    refine (rhead_yes A B C _ hf).mono ?_
    rintro e w' ⟨rfl, hw'⟩
    obtain rfl := hw'.symm
    go_wp2_with (first | (go_at_call 50; refine (num_any _ _).mono ?_; rintro e w' ⟨rfl, hw'⟩; obtain rfl := hw'.symm))
    go_ret
    exact ⟨rfl, hb0⟩
  · go_enter Tryd.func30, Tryd.ntmps30
    go_wp2_with fail
    refine (head_no A B C _ hf).mono ?_
    rintro e w' ⟨rfl, hw'⟩
    obtain rfl := hw'.symm
    go_wp2_with fail
    refine (rhead_no A B C _ hf).mono ?_
    rintro e w' ⟨rfl, hw'⟩
    obtain rfl := hw'.symm
    go_wp2_with (first | (go_at_call 50; refine (num_any _ _).mono ?_; rintro e w' ⟨rfl, hw'⟩; obtain rfl := hw'.symm))
    go_ret
    exact ⟨rfl, hb0⟩

set_option maxHeartbeats 1000000 in
theorem headers_split (A B C N M : Int) (x : Nat) (hx : x < 18446744073709551616) (vT vW : Value) (w : World) :
    Calls Tryd.prog 30 #[.agg #[.int .i64 2, .int .i64 A, .int .i64 B, .int .i64 C, .int .i64 N, .int .i64 M, .int .u64 x, vT, vW]] w fun e w' => e = .returned (.bool true) ∧ Below w.heap.size w w' := by
  have hb0 : Below w.heap.size w (w.alloc (.cells #[.int .i64 2, .int .i64 A, .int .i64 B, .int .i64 C, .int .i64 N, .int .i64 M, .int .u64 x, vT, vW] 49)) := (Below.refl _ _).alloc (Nat.le_refl _) _
  by_cases hf : IsHead x
  · go_enter Tryd.func30, Tryd.ntmps30
    go_wp2_with fail
    refine (split_yes x _ hx hf).mono ?_
    rintro e w1 ⟨hb1, rfl⟩
    have g6 : w1.cell? ⟨w.heap.size, 6, none⟩ = some (.int .u64 x) := field_at hb1 6
    go_wp2_with fail
    refine (rsplit_yes x _ hx hf).mono ?_
    rintro e w' ⟨hw', rfl⟩
    obtain rfl := hw'.symm
    go_wp2_with (first | (go_at_call 50; refine (num_any _ _).mono ?_; rintro e w' ⟨rfl, hw'⟩; obtain rfl := hw'.symm))
    go_ret
    exact ⟨rfl, chain hb0 hb1 hb0.size⟩
  · go_enter Tryd.func30, Tryd.ntmps30
    go_wp2_with fail
    refine (split_no x _ hx hf).mono ?_
    rintro e w1 ⟨hb1, rfl⟩
    have g6 : w1.cell? ⟨w.heap.size, 6, none⟩ = some (.int .u64 x) := field_at hb1 6
    go_wp2_with fail
    refine (rsplit_no x _ hx hf).mono ?_
    rintro e w' ⟨hw', rfl⟩
    obtain rfl := hw'.symm
    go_wp2_with (first | (go_at_call 50; refine (num_any _ _).mono ?_; rintro e w' ⟨rfl, hw'⟩; obtain rfl := hw'.symm))
    go_ret
    exact ⟨rfl, chain hb0 hb1 hb0.size⟩

set_option maxHeartbeats 1000000 in
theorem plays_heads (K A B C N M : Int) (hK : K = 1 ∨ K = 2) (x : Nat) (hx : x < 18446744073709551616) (vT vW : Value) (w : World) :
    Calls Tryd.prog 18 #[.agg #[.int .i64 K, .int .i64 A, .int .i64 B, .int .i64 C, .int .i64 N, .int .i64 M, .int .u64 x, vT, vW]] w fun e w' => e = .returned (.bool true) ∧ Below w.heap.size w w' := by
  rcases hK with rfl | rfl
  · have hb0 : Below w.heap.size w (w.alloc (.cells #[.int .i64 1, .int .i64 A, .int .i64 B, .int .i64 C, .int .i64 N, .int .i64 M, .int .u64 x, vT, vW] 49)) := (Below.refl _ _).alloc (Nat.le_refl _) _
    go_enter Tryd.func18, Tryd.ntmps18
    go_wp2_with fail
    refine (headers_head A B C N M x vT vW _).mono ?_
    rintro e w1 ⟨rfl, hb1⟩
    go_wp2
    go_ret
    exact ⟨rfl, chain hb0 hb1 hb0.size⟩
  · have hb0 : Below w.heap.size w (w.alloc (.cells #[.int .i64 2, .int .i64 A, .int .i64 B, .int .i64 C, .int .i64 N, .int .i64 M, .int .u64 x, vT, vW] 49)) := (Below.refl _ _).alloc (Nat.le_refl _) _
    go_enter Tryd.func18, Tryd.ntmps18
    go_wp2_with fail
    refine (headers_split A B C N M x hx vT vW _).mono ?_
    rintro e w1 ⟨rfl, hb1⟩
    go_wp2
    go_ret
    exact ⟨rfl, chain hb0 hb1 hb0.size⟩
end Go.Proofs.YtochdajeocganabDoor
