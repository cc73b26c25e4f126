/- plays at Hash and Sum. -/
import Derived.Test.YtochdajeocganabDoorHeaders
import Derived.Test.YtochdajeocganabDoorLend
import Derived.Test.YtochdajeocganabDoorRHash
import Derived.Test.YtochdajeocganabDoorRSum
namespace Go.Proofs.YtochdajeocganabDoor
open Go.ChangeShapes Go.WideShapes Go.ChangeAt Go.RowKit
set_option linter.unusedVariables false

set_option maxRecDepth 100000 in
set_option maxHeartbeats 1000000 in
theorem plays_hash (Hs : Nat → List Nat → Nat)
    (hH : ∀ (sd : Nat) (a' : Option Addr) (cap' : Nat) (w' : World) (m : List Nat), sd < 18446744073709551616 → m.length ≤ 140737488351240 → Bytes w' a' m → Small m → Calls Tryd.prog 35 #[.int .u64 sd, .slice a' m.length cap'] w' fun e w'' => e = .returned (.int .u64 (Hs sd m : Int)) ∧ Below w'.heap.size w' w'')
    (hR : ∀ (sd : Nat) (a' : Option Addr) (cap' : Nat) (w' : World) (m : List Nat), sd < 18446744073709551616 → m.length ≤ 140737488351240 → Bytes w' a' m → Small m → Calls Tryd.prog 36 #[.int .u64 sd, .slice a' m.length cap'] w' fun e w'' => e = .returned (.int .u64 (Hs sd m : Int)) ∧ Below w'.heap.size w' w'')
    (A B C N M : Int) (x : Nat) (hx : x < 18446744073709551616) (a : Option Addr) (cap : Nat) (vW : Value) (w : World) (l : List Nat) (hl : l.length ≤ 140737488351232) (hB : Bytes w a l) (hs : Small l) (hnil : a = none → cap = 0) :
    Calls Tryd.prog 18 #[.agg #[.int .i64 11, .int .i64 A, .int .i64 B, .int .i64 C, .int .i64 N, .int .i64 M, .int .u64 x, .slice a l.length cap, vW]] w fun e w' => e = .returned (.bool true) ∧ Below w.heap.size w w' := by
  have hb0 : Below w.heap.size w (w.alloc (.cells #[.int .i64 11, .int .i64 A, .int .i64 B, .int .i64 C, .int .i64 N, .int .i64 M, .int .u64 x, .slice a l.length cap, vW] 49)) := (Below.refl _ _).alloc (Nat.le_refl _) _
  have hB0 := hB.below hb0
  have HH := hide hH
  have HR := hide hR
  clear hH hR
  go_enter Tryd.func18, Tryd.ntmps18
  go_wp2_with fail
  refine (lend_any a cap _ l hl hB0 hnil).mono ?_
  rintro e w1 ⟨g, c, rfl, hL1, hb1⟩
  have f6 : w1.cell? ⟨w.heap.size, 6, none⟩ = some (.int .u64 x) := field_at hb1 6
  have f7 : w1.cell? ⟨w.heap.size, 7, none⟩ = some (.slice a l.length cap) := field_at hb1 7
  go_wp2_with fail
  refine (unhide HH x (some ⟨g, 0, none⟩) c w1 l hx (by omega) hL1.bytes hs).mono ?_
  rintro e w2 ⟨rfl, hb2⟩
  have hb02 := chain hb1 hb2 hb1.size
  have g6 : w2.cell? ⟨w.heap.size, 6, none⟩ = some (.int .u64 x) := field_at hb02 6
  have g7 : w2.cell? ⟨w.heap.size, 7, none⟩ = some (.slice a l.length cap) := field_at hb02 7
  have hB2 := (hB0.below hb1).below hb2
  clear f6 f7
  go_wp2_with fail
  refine (unhide HR x a cap w2 l hx (by omega) hB2 hs).mono ?_
  rintro e w3 ⟨rfl, hb3⟩
  have hb03 := chain hb02 hb3 hb02.size
  have k7 : w3.cell? ⟨w.heap.size, 7, none⟩ = some (.slice a l.length cap) := field_at hb03 7
  have hB3 := hB2.below hb3
  have hL3 := (hL1.below hb2).below hb3
  clear g6 g7
  go_wp2_with fail
  refine (intact_yes a cap g c _ w3 l hl hB3 hL3).mono ?_
  rintro e w' ⟨rfl, hw'⟩
  obtain rfl := hw'.symm
  go_wp2
  go_ret
  exact ⟨rfl, chain hb0 hb03 hb0.size⟩

set_option maxRecDepth 100000 in
set_option maxHeartbeats 1000000 in
theorem plays_sum (A B C N M : Int) (x : Nat) (a : Option Addr) (cap : Nat) (vW : Value) (w : World) (l : List Nat) (hl : l.length ≤ 140737488351232) (hB : Bytes w a l) (hs : Small l) (hnil : a = none → cap = 0) :
    Calls Tryd.prog 18 #[.agg #[.int .i64 12, .int .i64 A, .int .i64 B, .int .i64 C, .int .i64 N, .int .i64 M, .int .u64 x, .slice a l.length cap, vW]] w fun e w' => e = .returned (.bool true) ∧ Below w.heap.size w w' := by
  have hb0 : Below w.heap.size w (w.alloc (.cells #[.int .i64 12, .int .i64 A, .int .i64 B, .int .i64 C, .int .i64 N, .int .i64 M, .int .u64 x, .slice a l.length cap, vW] 49)) := (Below.refl _ _).alloc (Nat.le_refl _) _
  have hB0 := hB.below hb0
  obtain ⟨s, hsd⟩ : ∃ s, s = (Larder.sumOf l).toNat := ⟨_, rfl⟩
  have HH : Hid (∀ (a' : Option Addr) (c' : Nat) (w' : World), Bytes w' a' l → Calls Tryd.prog 38 #[.slice a' l.length c'] w' fun e w'' => e = .returned (.int .u64 (s : Int)) ∧ Below w'.heap.size w' w'') := by
    rw [hsd]; exact fun a' c' w' h => sum_any a' c' w' l (by omega) hs h
  have HR : Hid (∀ (a' : Option Addr) (c' : Nat) (w' : World), Bytes w' a' l → Calls Tryd.prog 39 #[.slice a' l.length c'] w' fun e w'' => e = .returned (.int .u64 (s : Int)) ∧ w'' = w') := by
    rw [hsd]; exact fun a' c' w' h => rsum_any a' c' w' l (by omega) hs h
  clear hsd
  go_enter Tryd.func18, Tryd.ntmps18
  go_wp2_with fail
  refine (lend_any a cap _ l hl hB0 hnil).mono ?_
  rintro e w1 ⟨g, c, rfl, hL1, hb1⟩
  go_wp2_with fail
  refine (unhide HH (some ⟨g, 0, none⟩) c w1 hL1.bytes).mono ?_
  rintro e w2 ⟨rfl, hb2⟩
  have hb02 := chain hb1 hb2 hb1.size
  have g7 : w2.cell? ⟨w.heap.size, 7, none⟩ = some (.slice a l.length cap) := field_at hb02 7
  have hB2 := (hB0.below hb1).below hb2
  go_wp2_with fail
  refine (unhide HR a cap w2 hB2).mono ?_
  rintro e w' ⟨rfl, hw'⟩
  obtain rfl := hw'.symm
  have hL3 := hL1.below hb2
  go_wp2_with fail
  refine (intact_yes a cap g c _ w2 l hl hB2 hL3).mono ?_
  rintro e w' ⟨rfl, hw'⟩
  obtain rfl := hw'.symm
  go_wp2
  go_ret
  exact ⟨rfl, chain hb0 hb02 hb0.size⟩
end Go.Proofs.YtochdajeocganabDoor
