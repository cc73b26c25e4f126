/- begun, sameWords. -/
import Derived.Test.YtdgdnpgjbphgaabThree
import Derived.BigQuiet
namespace Go.Proofs.Ytdgdnpgjbphgaab
open Go.ChangeShapes Go.WideShapes Go.ChangeAt Go.RowKit
set_option linter.unusedVariables false
set_option maxRecDepth 100000
set_option maxHeartbeats 2000000

theorem begun_any (w : World) : Calls Try.prog 5 #[] w fun e w' => e = .returned (.bool true) ∧ Below w.heap.size w w' := by
  have HN := hide (new_yes 8 (by decide) (by decide) w)
  go_enter Try.func5, Try.ntmps5
  go_wp2_with fail
  refine (unhide HN).mono ?_
  rintro e w1 ⟨p, bw, bh, rfl, hA, p1, p2, p3, hb1⟩
  have HA1 := hide (alloc_yes 3 1 2 w1 hA ⟨by decide, by decide, by decide, by decide, by decide, by decide⟩ (by simp))
  have HB1 := hide hb1
  clear hA hb1
  go_wp2_with (go_at_call 9; refine (num_any _ _).mono ?_; rintro e w' ⟨rfl, hw'⟩; obtain rfl := hw'.symm)
  refine (unhide HA1).mono ?_
  rintro e w2 ⟨rfl, hA2, hB2⟩
  have HA2 := hide (alloc_full 3 1 2 w2 hA2 ⟨by decide, by decide, by decide, by decide, by decide, by decide⟩ (by rw [laid_length]; simp))
  have HB2 := hide (hB2.below (unhide HB1) (fun j hj => by simp at hj; omega) (unhide HB1).size)
  have HAA := hide hA2
  clear hA2 hB2
  go_wp2_with fail
  refine (unhide HA2).mono ?_
  rintro e w3 ⟨rfl, hb3⟩
  have HU := hide (used_any w3 ((unhide HAA).below hb3))
  have HB3 := hide ((unhide HB2).trans (hb3.mono (unhide HB2).size))
  clear hb3
  go_wp2_with (first
    | (go_at_call 9; refine (num_any _ _).mono ?_; rintro e w' ⟨rfl, hw'⟩; obtain rfl := hw'.symm)
    | (go_at_call 11; refine (unhide HU).mono ?_; rintro e w' ⟨rfl, hw'⟩; obtain rfl := hw'.symm))
  go_ret
  exact ⟨rfl, unhide HB3⟩
theorem same_words (g g' : Nat) (cap cap' n : Nat) (f : Nat → Nat) (w : World) (hn : n ≤ 1048576) (hg : g < w.heap.size) (hg' : g' < w.heap.size) (h : ∀ j, j < n → w.cell? ⟨g, j, none⟩ = some (.int .u64 (f j : Nat))) (h' : ∀ j, j < n → w.cell? ⟨g', j, none⟩ = some (.int .u64 (f j : Nat))) :
    Calls Try.prog 40 #[.slice (some ⟨g, 0, none⟩) n cap, .slice (some ⟨g', 0, none⟩) n cap'] w fun e w' => e = .returned (.bool true) ∧ Below w.heap.size w w' := by
  have H : Hid (∀ j w', j < n → Below w.heap.size w w' → w'.cell? ⟨g, j, none⟩ = some (.int .u64 (f j : Nat)) ∧ w'.cell? ⟨g', j, none⟩ = some (.int .u64 (f j : Nat))) := hide (fun j w' hj hb => ⟨(hb.cell (p := ⟨g, j, none⟩) hg).trans (h j hj), (hb.cell (p := ⟨g', j, none⟩) hg').trans (h' j hj)⟩)
  clear h h'
  go_enter Try.func40, Try.ntmps40
  go_wp2_with fail
  go_loopw [5] (fun i wr => ∃ k : Nat, k ≤ n ∧ i = .int .i64 k ∧ Below w.heap.size w wr) (fun i _ => n - (intOf i).toNat)
  case atStart => exact ⟨0, by omega, rfl, Below.refl _ _⟩
  case round =>
    obtain ⟨k, hk, rfl, hbr⟩ := hrel
    by_cases hlt : k < n
    · obtain ⟨c1, c2⟩ := unhide H k wr hlt hbr
      generalize f k = x at *
      have f1 : decide ((k : Int) < (n : Int)) = true := decide_eq_true (by omega)
      have f2 : decide (k < n) = true := decide_eq_true hlt
      have z0 : (0 : Int) ≤ (k : Int) := by omega
      have z1 : (k : Int) < (n : Int) := by omega
      have HBR := hide hbr
      clear hbr
      go_wp2_with fail
      go_quiet (fail)
      go_wp2_with fail
      go_roundw
      case rel =>
        have hb := unhide HBR
        exact ⟨k + 1, by omega, by go_num, ⟨hb.os, hb.tape, hb.output, hb.size, hb.block⟩⟩
      case measure => simp [intOf]; omega
    · have f1 : decide ((k : Int) < (n : Int)) = false := decide_eq_false (by omega)
      have f2 : decide (k < n) = false := decide_eq_false hlt
      have HBR := hide hbr
      clear hbr
      go_wp2
      go_ret
      exact ⟨rfl, unhide HBR⟩
end Go.Proofs.Ytdgdnpgjbphgaab
