/- all's opening: Encode of the number -5. -/
import Derived.Test.YtihemhlphkpcfaaGreatDoorWrb
namespace Go.Proofs.YtihemhlphkpcfaaGreatDoor
open Go.ChangeShapes Go.WideShapes Go.ChangeAt Go.RowKit
set_option linter.unusedVariables false
set_option linter.unusedSimpArgs false
set_option maxRecDepth 20000
set_option maxHeartbeats 4000000

theorem fit_five (w : World) : Calls Tryz.prog 10 #[.agg #[.int .i64 3, .int .i64 (-5), .slice none 0 0, .slice none 0 0], .int .i64 0] w fun e w' => e = .returned (.bool true) ∧ Below w.heap.size w w' := by
  go_enter Tryz.func10, Tryz.ntmps10
  go_wp2
  go_region
  all_goals go_wp2
  all_goals go_ret
  all_goals exact ⟨rfl, ((Below.refl _ _).alloc (Nat.le_refl _) _).drew⟩
theorem reply_five (w0 w : World) (ht : Tab w0) (hb : Below w0.heap.size w0 w) : Calls Tryz.prog 11 #[.slice none 0 0, .agg #[.int .i64 3, .int .i64 (-5), .slice none 0 0, .slice none 0 0]] w fun e w' => ∃ va n vc, e = .returned (.slice va n vc) ∧ Hid (Gro w0 w' w0.heap.size (.slice va n vc) n (numL 58 (-5))) := by
  have CN : Hid (∀ W, Below w0.heap.size w0 W → Calls Tryz.prog 36 #[.slice none 0 0, .int .u8 58, .int .i64 (-5)] W fun e w' => ∃ va' n' vc', e = .returned (.slice va' n' vc') ∧ Hid (Gro w0 w' w0.heap.size (.slice va' n' vc') n' ([] ++ numL 58 (-5)))) := hide (fun W hW => addnum_any w0 W w0.heap.size none 0 0 58 [] (-5) ⟨hW, hW.size, .inl ⟨rfl, rfl⟩, fun g hg => by simp [Value.ownBlock] at hg, rfl⟩ (ht.below hW) ⟨by decide, by decide⟩ (by decide))
  have HB : Hid (∀ o, Below w0.heap.size w0 (w.alloc o)) := hide (fun o => hb.alloc hb.size o)
  clear ht hb
  go_enter Tryz.func11, Tryz.ntmps11
  go_wp2_with (go_at_call 36; refine (unhide CN _ (unhide HB _)).mono ?_; rintro e w1 ⟨a1, n1, c1, rfl, HG1⟩)
  all_goals go_ret
  all_goals exact ⟨_, _, _, rfl, HG1⟩
theorem encode_five (w : World) (ht : Tab w) : Calls Tryz.prog 6 #[.agg #[.int .i64 3, .int .i64 (-5), .slice none 0 0, .slice none 0 0]] w fun e w' => ∃ va n vc, e = .returned (.tuple #[.slice va n vc, .int .i64 0]) ∧ Hid (Gro w w' w.heap.size (.slice va n vc) n [58, 45, 53, 13, 10]) := by
  have AL : Hid (Below w.heap.size w (w.alloc (.cells #[.int .i64 3, .int .i64 (-5), .slice none 0 0, .slice none 0 0] 31))) := hide ((Below.refl _ _).alloc (Nat.le_refl _) _)
  have CF : Hid (Calls Tryz.prog 10 #[.agg #[.int .i64 3, .int .i64 (-5), .slice none 0 0, .slice none 0 0], .int .i64 0] (w.alloc (.cells #[.int .i64 3, .int .i64 (-5), .slice none 0 0, .slice none 0 0] 31)) fun e w' => e = .returned (.bool true) ∧ Hid (Below w.heap.size w w') ∧ w'.cell? ⟨w.heap.size, 0, none⟩ = some (.int .i64 3) ∧ w'.cell? ⟨w.heap.size, 1, none⟩ = some (.int .i64 (-5)) ∧ w'.cell? ⟨w.heap.size, 2, none⟩ = some (.slice none 0 0) ∧ w'.cell? ⟨w.heap.size, 3, none⟩ = some (.slice none 0 0)) := hide ((fit_five _).mono (fun e w' h => by
    have hg := (h.2.block w.heap.size (by simp)).trans (heap_alloc_new w _)
    exact ⟨h.1, hide ((unhide AL).trans (h.2.mono (by simp))), by rw [cell_of_row _ _ _ _ _ _ hg]; rfl, by rw [cell_of_row _ _ _ _ _ _ hg]; rfl, by rw [cell_of_row _ _ _ _ _ _ hg]; rfl, by rw [cell_of_row _ _ _ _ _ _ hg]; rfl⟩))
  have CR : Hid (∀ W, Hid (Below w.heap.size w W) → Calls Tryz.prog 11 #[.slice none 0 0, .agg #[.int .i64 3, .int .i64 (-5), .slice none 0 0, .slice none 0 0]] W fun e w' => ∃ va n vc, e = .returned (.slice va n vc) ∧ Hid (Gro w w' w.heap.size (.slice va n vc) n (numL 58 (-5)))) := hide (fun W hW => reply_five w W ht (unhide hW))
  have e5 : Hid (numL 58 (-5) = [58, 45, 53, 13, 10]) := hide (by decide +kernel)
  clear ht
  go_enter Tryz.func6, Tryz.ntmps6
  go_wp2_with (first
    | (go_at_call 10; refine (unhide CF).mono ?_; rintro e w1 ⟨rfl, k1, x0, x1, x2, x3⟩)
    | (go_at_call 11; refine (unhide CR _ k1).mono ?_; rintro e w2 ⟨a2, n2, c2, rfl, HG2⟩))
  all_goals go_ret2
  all_goals exact ⟨_, _, _, rfl, by rw [← unhide e5]; exact HG2⟩
end Go.Proofs.YtihemhlphkpcfaaGreatDoor
