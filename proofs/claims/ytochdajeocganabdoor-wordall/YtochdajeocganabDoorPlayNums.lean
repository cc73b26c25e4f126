/- numbers and unsigned at Int, Uint, Add. -/
import Derived.Test.YtochdajeocganabDoorHeaders
import Derived.Test.YtochdajeocganabDoorLend
import Derived.Test.YtochdajeocganabDoorRInt
import Derived.Test.YtochdajeocganabDoorAdd
namespace Go.Proofs.YtochdajeocganabDoor
open Go.ChangeShapes Go.WideShapes Go.ChangeAt Go.RowKit
set_option linter.unusedVariables false

set_option maxRecDepth 100000 in
set_option maxHeartbeats 1000000 in
theorem unsigned_uint (A B C N M : Int) (x : Nat) (a : Option Addr) (cap : Nat) (vW : Value) (w : World) (l : List Nat) (hl : l.length ≤ 140737488351232) (hB : Bytes w a l) (hs : Small l) (hnil : a = none → cap = 0) :
    Calls Tryd.prog 33 #[.agg #[.int .i64 9, .int .i64 A, .int .i64 B, .int .i64 C, .int .i64 N, .int .i64 M, .int .u64 x, .slice a l.length cap, vW]] w fun e w' => e = .returned (.bool true) ∧ Below w.heap.size w w' := by
  have hb0 : Below w.heap.size w (w.alloc (.cells #[.int .i64 9, .int .i64 A, .int .i64 B, .int .i64 C, .int .i64 N, .int .i64 M, .int .u64 x, .slice a l.length cap, vW] 49)) := (Below.refl _ _).alloc (Nat.le_refl _) _
  have hB0 := hB.below hb0
  obtain ⟨n, hn⟩ : ∃ n, n = (Larder.uintRes l).1 := ⟨_, rfl⟩
  obtain ⟨f, hf⟩ : ∃ f, f = (Larder.uintRes l).2 := ⟨_, rfl⟩
  have HH : Hid (∀ (a' : Option Addr) (c' : Nat) (w' : World), Bytes w' a' l → Calls Tryd.prog 59 #[.slice a' l.length c'] w' fun e w'' => e = .returned (.tuple #[.int .u64 (n : Int), .int .i64 (f : Int)]) ∧ w'' = w') := by
    rw [hn, hf]; exact fun a' c' w' h => uint_any a' c' w' l (by omega) hs h
  have HR : Hid (∀ (a' : Option Addr) (c' : Nat) (w' : World), Bytes w' a' l → Calls Tryd.prog 60 #[.slice a' l.length c'] w' fun e w'' => e = .returned (.tuple #[.int .u64 (n : Int), .int .i64 (f : Int)]) ∧ w'' = w') := by
    rw [hn, hf]; exact fun a' c' w' h => ruint_any a' c' w' l (by omega) hs h
  clear hn hf
  go_enter Tryd.func33, Tryd.ntmps33
  go_wp2_with fail
  refine (lend_any a cap _ l hl hB0 hnil).mono ?_
  rintro e w1 ⟨g, c, rfl, hL1, hb1⟩
  have f7 : w1.cell? ⟨w.heap.size, 7, none⟩ = some (.slice a l.length cap) := field_at hb1 7
  go_wp2_with fail
  refine (unhide HH (some ⟨g, 0, none⟩) c w1 hL1.bytes).mono ?_
  rintro e w' ⟨rfl, hw'⟩
  obtain rfl := hw'.symm
  have hB1 := hB0.below hb1
  go_wp2_with fail
  refine (unhide HR a cap w1 hB1).mono ?_
  rintro e w' ⟨rfl, hw'⟩
  obtain rfl := hw'.symm
  go_wp2_with fail
  refine (num_any f w1).mono ?_
  rintro e w' ⟨rfl, hw'⟩
  obtain rfl := hw'.symm
  go_wp2_with fail
  refine (intact_yes a cap g c _ w1 l hl hB1 hL1).mono ?_
  rintro e w' ⟨rfl, hw'⟩
  obtain rfl := hw'.symm
  go_wp2
  go_ret
  exact ⟨rfl, chain hb0 hb1 hb0.size⟩

theorem Lent.cap_le {w : World} {base g cap : Nat} {l : List Nat} (h : Lent w base g cap l) : l.length ≤ cap ∧ cap ≤ 9223372036854775807 := by
  have h' := h
  unfold Lent OwnB World.ownsRow at h'
  refine ⟨by have := h.marks.1; omega, ?_⟩
  rcases h'.2 with ⟨e, _⟩ | ⟨g', cap', cur, e, _, _, _, hm, _⟩
  · cases e
  · cases e
    have : maxLen = 9223372036854775807 := rfl
    omega

set_option maxRecDepth 100000 in
set_option maxHeartbeats 1000000 in
theorem numbers_int (A B C N M : Int) (x : Nat) (a : Option Addr) (cap : Nat) (vW : Value) (w : World) (l : List Nat) (hl : l.length ≤ 140737488351232) (hB : Bytes w a l) (hs : Small l) (hnil : a = none → cap = 0) :
    Calls Tryd.prog 32 #[.agg #[.int .i64 6, .int .i64 A, .int .i64 B, .int .i64 C, .int .i64 N, .int .i64 M, .int .u64 x, .slice a l.length cap, vW]] w fun e w' => e = .returned (.bool true) ∧ Below w.heap.size w w' := by
  have hb0 : Below w.heap.size w (w.alloc (.cells #[.int .i64 6, .int .i64 A, .int .i64 B, .int .i64 C, .int .i64 N, .int .i64 M, .int .u64 x, .slice a l.length cap, vW] 49)) := (Below.refl _ _).alloc (Nat.le_refl _) _
  have hB0 := hB.below hb0
  obtain ⟨n, hn⟩ : ∃ n, n = (Larder.intRes l).1 := ⟨_, rfl⟩
  obtain ⟨f, hf⟩ : ∃ f, f = (Larder.intRes l).2 := ⟨_, rfl⟩
  have HH : Hid (∀ (a' : Option Addr) (c' : Nat) (w' : World), l.length ≤ c' → c' ≤ 9223372036854775807 → Bytes w' a' l → Calls Tryd.prog 55 #[.slice a' l.length c'] w' fun e w'' => e = .returned (.tuple #[.int .i64 (n : Int), .int .i64 (f : Int)]) ∧ w'' = w') := by
    rw [hn, hf]; exact fun a' c' w' h1 h2 h => int_any a' c' w' l (by omega) hs h1 h2 h
  have HR : Hid (∀ (a' : Option Addr) (c' : Nat) (w' : World), Bytes w' a' l → Calls Tryd.prog 56 #[.slice a' l.length c'] w' fun e w'' => e = .returned (.tuple #[.int .i64 (n : Int), .int .i64 (f : Int)]) ∧ w'' = w') := by
    rw [hn, hf]; exact fun a' c' w' h => rint_any a' c' w' l (by omega) hs h
  clear hn hf
  go_enter Tryd.func32, Tryd.ntmps32
  go_wp2_with fail
  refine (lend_any a cap _ l hl hB0 hnil).mono ?_
  rintro e w1 ⟨g, c, rfl, hL1, hb1⟩
  have f7 : w1.cell? ⟨w.heap.size, 7, none⟩ = some (.slice a l.length cap) := field_at hb1 7
  go_wp2_with fail
  refine (unhide HH (some ⟨g, 0, none⟩) c w1 hL1.cap_le.1 hL1.cap_le.2 hL1.bytes).mono ?_
  rintro e w' ⟨rfl, hw'⟩
  obtain rfl := hw'.symm
  have hB1 := hB0.below hb1
  go_wp2_with fail
  refine (unhide HR a cap w1 hB1).mono ?_
  rintro e w' ⟨rfl, hw'⟩
  obtain rfl := hw'.symm
  go_wp2_with fail
  refine (num_any f w1).mono ?_
  rintro e w' ⟨rfl, hw'⟩
  obtain rfl := hw'.symm
  go_wp2_with fail
  refine (intact_yes a cap g c _ w1 l hl hB1 hL1).mono ?_
  rintro e w' ⟨rfl, hw'⟩
  obtain rfl := hw'.symm
  go_wp2
  go_ret
  exact ⟨rfl, chain hb0 hb1 hb0.size⟩

set_option maxRecDepth 100000 in
set_option maxHeartbeats 1000000 in
theorem numbers_add (A B C N M : Int) (hN1 : -9223372036854775808 ≤ N) (hN2 : N ≤ 9223372036854775807) (hM1 : -9223372036854775808 ≤ M) (hM2 : M ≤ 9223372036854775807) (x : Nat) (vT vW : Value) (w : World) :
    Calls Tryd.prog 32 #[.agg #[.int .i64 8, .int .i64 A, .int .i64 B, .int .i64 C, .int .i64 N, .int .i64 M, .int .u64 x, vT, vW]] w fun e w' => e = .returned (.bool true) ∧ Below w.heap.size w w' := by
  have hb0 : Below w.heap.size w (w.alloc (.cells #[.int .i64 8, .int .i64 A, .int .i64 B, .int .i64 C, .int .i64 N, .int .i64 M, .int .u64 x, vT, vW] 49)) := (Below.refl _ _).alloc (Nat.le_refl _) _
  have HH : Hid (∀ w' : World, Calls Tryd.prog 57 #[.int .i64 N, .int .i64 M] w' fun e w'' => e = .returned (.tuple #[.int .i64 (addRes N M).1, .int .i64 ((addRes N M).2 : Nat)]) ∧ w'' = w') := hide (fun w' => add_any N M w' hN1 hN2 hM1 hM2)
  have HR : Hid (∀ w' : World, Calls Tryd.prog 58 #[.int .i64 N, .int .i64 M] w' fun e w'' => e = .returned (.tuple #[.int .i64 (addRes N M).1, .int .i64 ((addRes N M).2 : Nat)]) ∧ w'' = w') := hide (fun w' => radd_any N M w' hN1 hN2 hM1 hM2)
  generalize (addRes N M).1 = n at HH HR
  generalize (addRes N M).2 = f at HH HR
  go_enter Tryd.func32, Tryd.ntmps32
  go_wp2_with fail
  refine (unhide HH _).mono ?_
  rintro e w' ⟨rfl, hw'⟩
  obtain rfl := hw'.symm
  go_wp2_with fail
  refine (unhide HR _).mono ?_
  rintro e w' ⟨rfl, hw'⟩
  obtain rfl := hw'.symm
  go_wp2_with fail
  refine (num_any f _).mono ?_
  rintro e w' ⟨rfl, hw'⟩
  obtain rfl := hw'.symm
  go_wp2
  go_ret
  exact ⟨rfl, hb0⟩

set_option maxRecDepth 100000 in
set_option maxHeartbeats 1000000 in
theorem plays_numbers (K A B C N M : Int) (hK : K = 6 ∨ K = 7 ∨ K = 8) (x : Nat) (vT vW : Value) (w : World)
    (hcall : ∀ wx : World, Below w.heap.size w wx → Calls Tryd.prog 32 #[.agg #[.int .i64 K, .int .i64 A, .int .i64 B, .int .i64 C, .int .i64 N, .int .i64 M, .int .u64 x, vT, vW]] wx fun e w' => e = .returned (.bool true) ∧ Below wx.heap.size wx w') :
    Calls Tryd.prog 18 #[.agg #[.int .i64 K, .int .i64 A, .int .i64 B, .int .i64 C, .int .i64 N, .int .i64 M, .int .u64 x, vT, vW]] w fun e w' => e = .returned (.bool true) ∧ Below w.heap.size w w' := by
  have hb0 : Below w.heap.size w (w.alloc (.cells #[.int .i64 K, .int .i64 A, .int .i64 B, .int .i64 C, .int .i64 N, .int .i64 M, .int .u64 x, vT, vW] 49)) := (Below.refl _ _).alloc (Nat.le_refl _) _
  have HC := hide (hcall _ hb0)
  clear hcall
  rcases hK with rfl | rfl | rfl
  all_goals
    go_enter Tryd.func18, Tryd.ntmps18
    go_wp2_with fail
    refine (unhide HC).mono ?_
    rintro e w1 ⟨rfl, hb1⟩
    go_wp2
    go_ret
    exact ⟨rfl, chain hb0 hb1 hb0.size⟩

set_option maxRecDepth 100000 in
set_option maxHeartbeats 1000000 in
theorem plays_unsigned (K A B C N M : Int) (hK : K = 9 ∨ K = 10) (x : Nat) (vT vW : Value) (w : World)
    (hcall : ∀ wx : World, Below w.heap.size w wx → Calls Tryd.prog 33 #[.agg #[.int .i64 K, .int .i64 A, .int .i64 B, .int .i64 C, .int .i64 N, .int .i64 M, .int .u64 x, vT, vW]] wx fun e w' => e = .returned (.bool true) ∧ Below wx.heap.size wx w') :
    Calls Tryd.prog 18 #[.agg #[.int .i64 K, .int .i64 A, .int .i64 B, .int .i64 C, .int .i64 N, .int .i64 M, .int .u64 x, vT, vW]] w fun e w' => e = .returned (.bool true) ∧ Below w.heap.size w w' := by
  have hb0 : Below w.heap.size w (w.alloc (.cells #[.int .i64 K, .int .i64 A, .int .i64 B, .int .i64 C, .int .i64 N, .int .i64 M, .int .u64 x, vT, vW] 49)) := (Below.refl _ _).alloc (Nat.le_refl _) _
  have HC := hide (hcall _ hb0)
  clear hcall
  rcases hK with rfl | rfl
  all_goals
    go_enter Tryd.func18, Tryd.ntmps18
    go_wp2_with fail
    refine (unhide HC).mono ?_
    rintro e w1 ⟨rfl, hb1⟩
    go_wp2
    go_ret
    exact ⟨rfl, chain hb0 hb1 hb0.size⟩

end Go.Proofs.YtochdajeocganabDoor
