/- numbers and unsigned at Text and Digits. -/
import Derived.Test.YtochdajeocganabDoorPlayNums
import Derived.Test.YtochdajeocganabDoorText
import Derived.Test.YtochdajeocganabDoorRText
import Derived.Deep.RegionHeld3
namespace Go.Proofs.YtochdajeocganabDoor
open Go.ChangeShapes Go.WideShapes Go.ChangeAt Go.RowKit
set_option linter.unusedVariables false

theorem text_out (i : Int) (h0 : -9223372036854775808 ≤ i) (h1 : i ≤ 9223372036854775807) (w : World) (ht : Tab w) :
    Calls Tryd.prog 23 #[.int .i64 i] w fun e w' => ∃ a c, e = .returned (.slice a (Larder.spellI i).length c) ∧ Bytes w' a (Larder.spellI i) ∧ Below w.heap.size w w' := by
  refine (text_any i h0 h1 w ht).mono ?_
  rintro e w' ⟨v, he, hown, hb⟩
  obtain ⟨a, c, hv, hB, -⟩ := hown.shape
  exact ⟨a, c, by rw [he, hv], hB, hb⟩
theorem digits_out (u : Nat) (hu : u < 18446744073709551616) (w : World) (ht : Tab w) :
    Calls Tryd.prog 25 #[.int .u64 u] w fun e w' => ∃ a c, e = .returned (.slice a (Larder.spell u).length c) ∧ Bytes w' a (Larder.spell u) ∧ Below w.heap.size w w' := by
  refine (digits_any u hu w ht).mono ?_
  rintro e w' ⟨v, he, hown, hb⟩
  obtain ⟨a, c, hv, hB, -⟩ := hown.shape
  exact ⟨a, c, by rw [he, hv], hB, hb⟩
theorem rdigits_out (u : Nat) (hu : u < 18446744073709551616) (w : World) :
    Calls Tryd.prog 26 #[.int .u64 u] w fun e w' => ∃ a c, e = .returned (.slice a (Larder.spell u).length c) ∧ Bytes w' a (Larder.spell u) ∧ Below w.heap.size w w' := by
  refine (rdigits_any (u + 1) u (by omega) hu w).mono ?_
  rintro e w' ⟨v, he, hown, hb⟩
  obtain ⟨a, c, hv, hB, -⟩ := hown.shape
  exact ⟨a, c, by rw [he, hv], hB, hb⟩

theorem same_yes (a a' : Option Addr) (cap cap' : Nat) (w : World) (l : List Nat) (hB : Bytes w a l) (hB' : Bytes w a' l) (hs : Small l) :
    Calls Tryd.prog 14 #[.slice a l.length cap, .slice a' l.length cap'] w fun e w' => e = .returned (.bool true) ∧ w' = w := by
  have h := same_any a a' cap cap' w l l hB hB' hs hs
  rwa [decide_eq_true rfl] at h

theorem keep_call {w0 wx w1 : World} {b j : Nat} {v : Value} (hlt : b < w0.heap.size) (h12 : wx.cell? ⟨b, j, none⟩ = some v ∧ Below w0.heap.size w0 wx) (h3 : Below wx.heap.size wx w1) :
    w1.cell? ⟨b, j, none⟩ = some v ∧ Below w0.heap.size w0 w1 :=
  ⟨(h3.cell (p := ⟨b, j, none⟩) (Nat.lt_of_lt_of_le hlt h12.2.size)).trans h12.1, h12.2.trans (h3.mono h12.2.size)⟩
theorem keep_start {w0 : World} {b j : Nat} {v : Value} (h1 : w0.cell? ⟨b, j, none⟩ = some v) : w0.drew.cell? ⟨b, j, none⟩ = some v ∧ Below w0.heap.size w0 w0.drew :=
  ⟨h1, ⟨rfl, rfl, rfl, Nat.le_refl _, fun _ _ => rfl⟩⟩
set_option maxRecDepth 100000 in
set_option maxHeartbeats 1000000 in
theorem numbers_text (A B C N M : Int) (hN1 : -9223372036854775808 ≤ N) (hN2 : N ≤ 9223372036854775807) (x : Nat) (vT vW : Value) (w : World) (ht : Tab w) :
    Calls Tryd.prog 32 #[.agg #[.int .i64 7, .int .i64 A, .int .i64 B, .int .i64 C, .int .i64 N, .int .i64 M, .int .u64 x, vT, vW]] w fun e w' => e = .returned (.bool true) ∧ Below w.heap.size w w' := by
  obtain ⟨w0, hw0⟩ : ∃ w0, w0 = w.alloc (.cells #[.int .i64 7, .int .i64 A, .int .i64 B, .int .i64 C, .int .i64 N, .int .i64 M, .int .u64 x, vT, vW] 49) := ⟨_, rfl⟩
  have hb0 : Below w.heap.size w w0 := by rw [hw0]; exact (Below.refl _ _).alloc (Nat.le_refl _) _
  have hc0 : w0.cell? ⟨w.heap.size, 4, none⟩ = some (.int .i64 N) := by rw [hw0]; exact field_at (Below.refl _ _) 4
  have ht0 := ht.below hb0
  have hlt0 : w.heap.size < w0.heap.size := by rw [hw0]; simp
  obtain ⟨l, hl⟩ : ∃ l, l = Larder.spellI N := ⟨_, rfl⟩
  have hs : Hid (Small l) := hide (by rw [hl]; exact fun i hi => Larder.nums_small _ i hi)
  have HT : Hid (∀ w', (w'.cell? ⟨w.heap.size, 4, none⟩ = some (.int .i64 N) ∧ Below w0.heap.size w0 w') → Calls Tryd.prog 23 #[.int .i64 N] w' fun e w'' => ∃ a c, e = .returned (.slice a l.length c) ∧ Bytes w'' a l ∧ Below w'.heap.size w' w'') :=
    hide (fun w' hb => by rw [hl]; exact text_out N hN1 hN2 w' (ht0.below hb.2))
  have HR : Hid (∀ w', Calls Tryd.prog 24 #[.int .i64 N] w' fun e w'' => ∃ a c, e = .returned (.slice a l.length c) ∧ Bytes w'' a l ∧ Below w'.heap.size w' w'') :=
    hide (fun w' => by rw [hl]; exact rtext_any N hN1 hN2 w')
  clear hl ht ht0
  have HC0 := hide hc0
  have HB0 := hide hb0
  have HW0 := hide hw0
  have HLT := hide hlt0
  clear hc0 hb0 hlt0 hw0
  go_enter Tryd.func32, Tryd.ntmps32
  go_wp2_with fail
  rw [← unhide HW0]
  go_region_held3 (fun w' => w'.cell? ⟨w.heap.size, 4, none⟩ = some (.int .i64 N) ∧ Below w0.heap.size w0 w')
    (first | exact keep_start (unhide HC0) | assumption | exact keep_call (unhide HLT) (by assumption) (by assumption))
    (first
      | (go_at_call 23; refine (unhide HT _ (by assumption)).mono ?_; rintro e w1 ⟨a1, c1, rfl, hB1, hb1⟩)
      | (go_at_call 24; refine (unhide HR _).mono ?_; rintro e w2 ⟨a2, c2, rfl, hB2, hb2⟩)
      | (go_at_call 14; refine (same_yes _ _ _ _ _ l ((by assumption : Bytes _ _ l).below (by assumption)) (by assumption) (unhide hs)).mono ?_; rintro e w3 ⟨rfl, hw3⟩; obtain rfl := hw3.symm))
  go_wp2
  go_ret
  have k0 := chain (unhide HB0) (keep_start (unhide HC0)).2 (unhide HB0).size
  have k1 := chain k0 hb1 k0.size
  exact ⟨rfl, chain k1 hb2 k1.size⟩

set_option maxRecDepth 100000 in
set_option maxHeartbeats 1000000 in
theorem unsigned_digits (A B C N M : Int) (x : Nat) (hx : x < 18446744073709551616) (vT vW : Value) (w : World) (ht : Tab w) :
    Calls Tryd.prog 33 #[.agg #[.int .i64 10, .int .i64 A, .int .i64 B, .int .i64 C, .int .i64 N, .int .i64 M, .int .u64 x, vT, vW]] w fun e w' => e = .returned (.bool true) ∧ Below w.heap.size w w' := by
  obtain ⟨w0, hw0⟩ : ∃ w0, w0 = w.alloc (.cells #[.int .i64 10, .int .i64 A, .int .i64 B, .int .i64 C, .int .i64 N, .int .i64 M, .int .u64 x, vT, vW] 49) := ⟨_, rfl⟩
  have hb0 : Below w.heap.size w w0 := by rw [hw0]; exact (Below.refl _ _).alloc (Nat.le_refl _) _
  have hc0 : w0.cell? ⟨w.heap.size, 6, none⟩ = some (.int .u64 x) := by rw [hw0]; exact field_at (Below.refl _ _) 6
  have ht0 := ht.below hb0
  have hlt0 : w.heap.size < w0.heap.size := by rw [hw0]; simp
  obtain ⟨l, hl⟩ : ∃ l, l = Larder.spell x := ⟨_, rfl⟩
  have hs : Hid (Small l) := hide (by rw [hl]; exact fun i hi => Larder.nums_small _ i hi)
  have HT : Hid (∀ w', (w'.cell? ⟨w.heap.size, 6, none⟩ = some (.int .u64 x) ∧ Below w0.heap.size w0 w') → Calls Tryd.prog 25 #[.int .u64 x] w' fun e w'' => ∃ a c, e = .returned (.slice a l.length c) ∧ Bytes w'' a l ∧ Below w'.heap.size w' w'') :=
    hide (fun w' hb => by rw [hl]; exact digits_out x hx w' (ht0.below hb.2))
  have HR : Hid (∀ w', Calls Tryd.prog 26 #[.int .u64 x] w' fun e w'' => ∃ a c, e = .returned (.slice a l.length c) ∧ Bytes w'' a l ∧ Below w'.heap.size w' w'') :=
    hide (fun w' => by rw [hl]; exact rdigits_out x hx w')
  clear hl ht ht0
  have HC0 := hide hc0
  have HB0 := hide hb0
  have HW0 := hide hw0
  have HLT := hide hlt0
  clear hc0 hb0 hlt0 hw0
  go_enter Tryd.func33, Tryd.ntmps33
  go_wp2_with fail
  rw [← unhide HW0]
  go_region_held3 (fun w' => w'.cell? ⟨w.heap.size, 6, none⟩ = some (.int .u64 x) ∧ Below w0.heap.size w0 w')
    (first | exact keep_start (unhide HC0) | assumption | exact keep_call (unhide HLT) (by assumption) (by assumption))
    (first
      | (go_at_call 25; refine (unhide HT _ (by assumption)).mono ?_; rintro e w1 ⟨a1, c1, rfl, hB1, hb1⟩)
      | (go_at_call 26; refine (unhide HR _).mono ?_; rintro e w2 ⟨a2, c2, rfl, hB2, hb2⟩)
      | (go_at_call 14; refine (same_yes _ _ _ _ _ l ((by assumption : Bytes _ _ l).below (by assumption)) (by assumption) (unhide hs)).mono ?_; rintro e w3 ⟨rfl, hw3⟩; obtain rfl := hw3.symm))
  go_wp2
  go_ret
  have k0 := chain (unhide HB0) (keep_start (unhide HC0)).2 (unhide HB0).size
  have k1 := chain k0 hb1 k0.size
  exact ⟨rfl, chain k1 hb2 k1.size⟩
end Go.Proofs.YtochdajeocganabDoor
