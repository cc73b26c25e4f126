/- packed and plays at Words, Pack, Unpack. -/
import Derived.Test.YtochdajeocganabDoorHeaders
import Derived.Test.YtochdajeocganabDoorIntactW
import Derived.Test.YtochdajeocganabDoorRPack
import Derived.Test.YtochdajeocganabDoorUnpack
namespace Go.Proofs.YtochdajeocganabDoor
open Go.ChangeShapes Go.WideShapes Go.ChangeAt Go.RowKit
set_option linter.unusedVariables false

set_option maxRecDepth 100000 in
set_option maxHeartbeats 1000000 in
theorem packed_words (A B C N M : Int) (hA1 : -9223372036854775808 ≤ A) (hA2 : A ≤ 9223372036854775807) (x : Nat) (vT vW : Value) (w : World) :
    Calls Tryd.prog 31 #[.agg #[.int .i64 3, .int .i64 A, .int .i64 B, .int .i64 C, .int .i64 N, .int .i64 M, .int .u64 x, vT, vW]] w fun e w' => e = .returned (.bool true) ∧ Below w.heap.size w w' := by
  have hb0 : Below w.heap.size w (w.alloc (.cells #[.int .i64 3, .int .i64 A, .int .i64 B, .int .i64 C, .int .i64 N, .int .i64 M, .int .u64 x, vT, vW] 49)) := (Below.refl _ _).alloc (Nat.le_refl _) _
  obtain ⟨k, hk⟩ : ∃ k, k = wordsI A := ⟨_, rfl⟩
  have H1 : Hid (∀ wx : World, Calls Tryd.prog 19 #[.int .i64 A] wx fun e w' => e = .returned (.int .i64 k) ∧ w' = wx) := fun wx => by rw [hk]; exact words_any A wx hA1 hA2
  have H2 : Hid (∀ wx : World, Calls Tryd.prog 40 #[.int .i64 A] wx fun e w' => e = .returned (.int .i64 k) ∧ w' = wx) := fun wx => by rw [hk]; exact rwords_any A wx hA1 hA2
  clear hk
  go_enter Tryd.func31, Tryd.ntmps31
  go_wp2_with fail
  go_quiet (first | (go_at_call 19; exact Calls.quiet_of_same (unhide H1 _)) | (go_at_call 40; exact Calls.quiet_of_same (unhide H2 _)))
  go_wp2
  go_ret
  exact ⟨rfl, below_drewN hb0 _⟩

set_option maxRecDepth 100000 in
set_option maxHeartbeats 1000000 in
theorem packed_pack (A B C N M : Int) (x : Nat) (a : Option Addr) (cap : Nat) (vW : Value) (w : World) (l : List Nat) (hl : l.length ≤ 140737488351232) (hB : Bytes w a l) (hs : Small l) (hnil : a = none → cap = 0) :
    Calls Tryd.prog 31 #[.agg #[.int .i64 4, .int .i64 A, .int .i64 B, .int .i64 C, .int .i64 N, .int .i64 M, .int .u64 x, .slice a l.length cap, vW]] w fun e w' => e = .returned (.bool true) ∧ Below w.heap.size w w' := by
  have hb0 : Below w.heap.size w (w.alloc (.cells #[.int .i64 4, .int .i64 A, .int .i64 B, .int .i64 C, .int .i64 N, .int .i64 M, .int .u64 x, .slice a l.length cap, vW] 49)) := (Below.refl _ _).alloc (Nat.le_refl _) _
  have hB0 := hB.below hb0
  have hpl : (Larder.packL l).length ≤ 140737488355328 := by rw [Larder.packL_length]; unfold Larder.wn; omega
  go_enter Tryd.func31, Tryd.ntmps31
  go_wp2_with fail
  refine (lend_any a cap _ l hl hB0 hnil).mono ?_
  rintro e w1 ⟨g, c, rfl, hL1, hb1⟩
  go_wp2_with fail
  refine (pack_any (some ⟨g, 0, none⟩) c w1 l (by omega) hL1.bytes hs).mono ?_
  rintro e w2 ⟨v2, rfl, hown2, hb2⟩
  obtain ⟨a2, cap2, rfl, hW2⟩ := hown2.shape
  have hb02 := chain hb1 hb2 hb1.size
  have g7 : w2.cell? ⟨w.heap.size, 7, none⟩ = some (.slice a l.length cap) := field_at hb02 7
  have hB2 := (hB0.below hb1).below hb2
  go_wp2_with fail
  refine (rpack_any a cap w2 l (by omega) hB2 hs).mono ?_
  rintro e w3 ⟨v3, rfl, hown3, hb3⟩
  obtain ⟨a3, cap3, rfl, hW3⟩ := hown3.shape
  have hb03 := chain hb02 hb3 hb02.size
  have hW23 := hW2.below hb3
  go_wp2_with fail
  refine (samew_yes a2 a3 cap2 cap3 w3 (Larder.packL l) hpl hW23 hW3).mono ?_
  rintro e w4 ⟨rfl, hb4⟩
  have hb04 := chain hb03 hb4 hb03.size
  have k7 : w4.cell? ⟨w.heap.size, 7, none⟩ = some (.slice a l.length cap) := field_at hb04 7
  have hB4 := (hB2.below hb3).below hb4
  have hL4 := ((hL1.below hb2).below hb3).below hb4
  clear g7
  go_wp2_with fail
  refine (intact_yes a cap g c _ w4 l hl hB4 hL4).mono ?_
  rintro e w' ⟨rfl, hw'⟩
  obtain rfl := hw'.symm
  go_wp2
  go_ret
  exact ⟨rfl, chain hb0 hb04 hb0.size⟩

set_option maxRecDepth 100000 in
set_option maxHeartbeats 1000000 in
theorem packed_unpack (A B C N M : Int) (hA1 : -9223372036854775808 ≤ A) (hA2 : A ≤ 9223372036854775807) (x : Nat) (vT : Value) (a : Option Addr) (cap : Nat) (w : World) (l : List Nat) (hl : 8 * l.length ≤ 140737488351232) (hB : Words w a l) (hs : WSmall l) (hnil : a = none → cap = 0) :
    Calls Tryd.prog 31 #[.agg #[.int .i64 5, .int .i64 A, .int .i64 B, .int .i64 C, .int .i64 N, .int .i64 M, .int .u64 x, vT, .slice a l.length cap]] w fun e w' => e = .returned (.bool true) ∧ Below w.heap.size w w' := by
  have hb0 : Below w.heap.size w (w.alloc (.cells #[.int .i64 5, .int .i64 A, .int .i64 B, .int .i64 C, .int .i64 N, .int .i64 M, .int .u64 x, vT, .slice a l.length cap] 49)) := (Below.refl _ _).alloc (Nat.le_refl _) _
  have hB0 := hB.below hb0
  go_enter Tryd.func31, Tryd.ntmps31
  go_wp2_with fail
  refine (lendw_any a cap _ l hl hB0 hnil).mono ?_
  rintro e w1 ⟨g, c, rfl, hL1, hb1⟩
  have f1 : w1.cell? ⟨w.heap.size, 1, none⟩ = some (.int .i64 A) := field_at hb1 1
  have hB1 := hB0.below hb1
  by_cases hA : 0 ≤ A ∧ wordsI A ≤ (l.length : Int)
  · obtain ⟨n, hn⟩ := Int.eq_ofNat_of_zero_le hA.1
    have hwn : Larder.wn n ≤ l.length := by
      have h2 := hA.2
      rw [hn] at h2
      unfold wordsI at h2
      unfold Larder.wn
      split at h2 <;> omega
    have hn8 : n ≤ 8 * l.length := by unfold Larder.wn at hwn; omega
    have hc1 := unpack_yes (some ⟨g, 0, none⟩) c n w1 l (by omega) hwn hL1.bytes hs
    rw [← hn] at hc1
    have H1 := hide hc1
    have H2 : Hid (∀ wx : World, Words wx a l → Calls Tryd.prog 22 #[.slice a l.length cap, .int .i64 A] wx fun e w' => ∃ v, e = .returned (.tuple #[v, .int .i64 0]) ∧ OwnB w' wx.heap.size v (Larder.unpackL l n) ∧ Below wx.heap.size wx w') := fun wx h => by
      rw [hn]; exact runpack_yes a cap n wx l hl hwn h hs
    have hus := Larder.unpackL_small l n
    clear hc1 hn hA
    generalize Larder.unpackL l n = u at *
    go_wp2_with fail
    refine (unhide H1).mono ?_
    rintro e w2 ⟨v2, rfl, hown2, hb2⟩
    obtain ⟨a2, cap2, rfl, hB2, _⟩ := hown2.shape
    have hb02 := chain hb1 hb2 hb1.size
    have g1 : w2.cell? ⟨w.heap.size, 1, none⟩ = some (.int .i64 A) := field_at hb02 1
    have g8 : w2.cell? ⟨w.heap.size, 8, none⟩ = some (.slice a l.length cap) := field_at hb02 8
    have hBl2 := hB1.below hb2
    clear f1
    go_wp2_with fail
    refine (unhide H2 w2 hBl2).mono ?_
    rintro e w3 ⟨v3, rfl, hown3, hb3⟩
    obtain ⟨a3, cap3, rfl, hB3, _⟩ := hown3.shape
    have hb03 := chain hb02 hb3 hb02.size
    have k8 : w3.cell? ⟨w.heap.size, 8, none⟩ = some (.slice a l.length cap) := field_at hb03 8
    have hsame := same_any a2 a3 cap2 cap3 w3 u u (hB2.below hb3) hB3 hus hus
    simp only [decide_true] at hsame
    have HS := hide hsame
    have HI := hide (intactw_yes a cap g c _ w3 l hl (hBl2.below hb3) ((hL1.below hb2).below hb3))
    clear hsame g1 g8
    go_wp2_with (first | (go_at_call 14; refine (unhide HS).mono ?_; rintro e w' ⟨rfl, hw'⟩; obtain rfl := hw'.symm) | (go_at_call 50; refine (num_any _ _).mono ?_; rintro e w' ⟨rfl, hw'⟩; obtain rfl := hw'.symm))
    refine (unhide HI).mono ?_
    rintro e w4 ⟨rfl, hb4⟩
    go_wp2
    go_ret
    exact ⟨rfl, chain hb0 (chain hb03 hb4 hb03.size) hb0.size⟩
  · have H1 := hide (unpack_no (some ⟨g, 0, none⟩) c l.length A w1 hA1 hA2 (by omega))
    have H2 := hide (runpack_no a cap l.length A w1 hA1 hA2 (by omega))
    have f8 : w1.cell? ⟨w.heap.size, 8, none⟩ = some (.slice a l.length cap) := field_at hb1 8
    have hsame := same_any none none 0 0 w1 [] [] (.inl rfl) (.inl rfl) (fun i hi => absurd hi (Nat.not_lt_zero _)) (fun i hi => absurd hi (Nat.not_lt_zero _))
    simp only [List.length_nil, decide_true] at hsame
    have HS := hide hsame
    have HI := hide (intactw_yes a cap g c _ w1 l hl hB1 hL1)
    clear hsame hA
    go_wp2_with fail
    refine (unhide H1).mono ?_
    rintro e w' ⟨rfl, hw'⟩
    obtain rfl := hw'.symm
    go_wp2_with fail
    refine (unhide H2).mono ?_
    rintro e w' ⟨rfl, hw'⟩
    obtain rfl := hw'.symm
    go_wp2_with (first | (go_at_call 14; refine (unhide HS).mono ?_; rintro e w' ⟨rfl, hw'⟩; obtain rfl := hw'.symm) | (go_at_call 50; refine (num_any _ _).mono ?_; rintro e w' ⟨rfl, hw'⟩; obtain rfl := hw'.symm))
    refine (unhide HI).mono ?_
    rintro e w4 ⟨rfl, hb4⟩
    go_wp2
    go_ret
    exact ⟨rfl, chain hb0 (chain hb1 hb4 hb1.size) hb0.size⟩

set_option maxRecDepth 100000 in
set_option maxHeartbeats 1000000 in
theorem plays_packs (K A B C N M : Int) (hK : K = 3 ∨ K = 4 ∨ K = 5) (x : Nat) (vT vW : Value) (w : World)
    (hcall : ∀ wx : World, Below w.heap.size w wx → Calls Tryd.prog 31 #[.agg #[.int .i64 K, .int .i64 A, .int .i64 B, .int .i64 C, .int .i64 N, .int .i64 M, .int .u64 x, vT, vW]] wx fun e w' => e = .returned (.bool true) ∧ Below wx.heap.size wx w') :
    Calls Tryd.prog 18 #[.agg #[.int .i64 K, .int .i64 A, .int .i64 B, .int .i64 C, .int .i64 N, .int .i64 M, .int .u64 x, vT, vW]] w fun e w' => e = .returned (.bool true) ∧ Below w.heap.size w w' := by
  have hb0 : Below w.heap.size w (w.alloc (.cells #[.int .i64 K, .int .i64 A, .int .i64 B, .int .i64 C, .int .i64 N, .int .i64 M, .int .u64 x, vT, vW] 49)) := (Below.refl _ _).alloc (Nat.le_refl _) _
  have HC := hide (hcall _ hb0)
  clear hcall
  rcases hK with rfl | rfl | rfl
  all_goals
    go_enter Tryd.func18, Tryd.ntmps18
    go_wp2_with fail
    refine (unhide HC).mono ?_
    rintro e w1 ⟨rfl, hb1⟩
    go_wp2
    go_ret
    exact ⟨rfl, chain hb0 hb1 hb0.size⟩
end Go.Proofs.YtochdajeocganabDoor
