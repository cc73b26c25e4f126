/- The document's Row, name by name. -/
import Derived.Test.YtbbmhipkelpmlaaDoorRw
namespace Go.Proofs.YtbbmhipkelpmlaaDoor
open Go.ChangeShapes Go.WideShapes Go.ChangeAt Go.RowKit
set_option linter.unusedVariables false
set_option maxRecDepth 100000
set_option maxHeartbeats 2000000

theorem row_LINDEX (w : World) : Calls Tryd.prog 5 #[.string ⟨#[76, 73, 78, 68, 69, 88]⟩] w fun e w' => e = .returned (.tuple #[.agg #[.string ⟨#[76, 73, 78, 68, 69, 88]⟩, .int .i64 3, .bool false, .int .i64 1, .int .i64 1, .int .i64 1, .int .i64 0], .bool true]) ∧ Below w.heap.size w w' := by
  have CR : Hid (∀ W, Calls Tryd.prog 8 #[.string ⟨#[76, 73, 78, 68, 69, 88]⟩] W fun e w' => e = .returned (.tuple #[.agg #[.string ⟨#[76, 73, 78, 68, 69, 88]⟩, .int .i64 3, .bool false, .int .i64 1, .int .i64 1, .int .i64 1, .int .i64 0], .bool true]) ∧ w' = (W.alloc (.cells #[.string ⟨#[76, 73, 78, 68, 69, 88]⟩, .int .i64 3, .bool false, .int .i64 1, .int .i64 1, .int .i64 1, .int .i64 0] 26)).alloc (.cells #[.string ⟨#[76, 73, 78, 68, 69, 88]⟩, .int .i64 3, .bool false, .int .i64 1, .int .i64 1, .int .i64 1, .int .i64 0] 26)) := hide read_LINDEX
  go_enter Tryd.func5, Tryd.ntmps5
  go_wp2_with (go_at_call 8; refine (unhide CR _).mono ?_; rintro e w1 ⟨rfl, rfl⟩)
  refine bodyPost_ret (res_cell_tmp (p := 2) (q := 3) (ty := 26) rfl _ _ w.heap.size 26 _ (0, 0) _ rfl ((Below.heap_alloc _ _ _ (by simp; omega)).trans ((Below.heap_alloc _ _ _ (by simp; omega)).trans ((Below.heap_alloc _ _ _ (by simp)).trans (heap_alloc_last w _)))) Tryd.underlying26 rfl (by kernel_rfl) _ rfl) rfl ⟨rfl, ((((Below.refl _ _).alloc (Nat.le_refl _) _).alloc (by simp) _).alloc (by simp; omega) _).alloc (by simp; omega) _⟩
theorem row_LINSERT (w : World) : Calls Tryd.prog 5 #[.string ⟨#[76, 73, 78, 83, 69, 82, 84]⟩] w fun e w' => e = .returned (.tuple #[.agg #[.string ⟨#[76, 73, 78, 83, 69, 82, 84]⟩, .int .i64 5, .bool true, .int .i64 1, .int .i64 1, .int .i64 1, .int .i64 0], .bool true]) ∧ Below w.heap.size w w' := by
  go_enter Tryd.func5, Tryd.ntmps5
  go_wp2
  refine bodyPost_ret (res_cell_tmp (p := 2) (q := 3) (ty := 26) rfl _ _ w.heap.size 26 _ (0, 0) _ rfl ((Below.heap_alloc _ _ _ (by simp)).trans (heap_alloc_last w _)) Tryd.underlying26 rfl (by kernel_rfl) _ rfl) rfl ⟨rfl, ((Below.refl _ _).alloc (Nat.le_refl _) _).alloc (by simp) _⟩
theorem row_LLEN (w : World) : Calls Tryd.prog 5 #[.string ⟨#[76, 76, 69, 78]⟩] w fun e w' => e = .returned (.tuple #[.agg #[.string ⟨#[76, 76, 69, 78]⟩, .int .i64 2, .bool false, .int .i64 1, .int .i64 1, .int .i64 1, .int .i64 0], .bool true]) ∧ Below w.heap.size w w' := by
  have CR : Hid (∀ W, Calls Tryd.prog 8 #[.string ⟨#[76, 76, 69, 78]⟩] W fun e w' => e = .returned (.tuple #[.agg #[.string ⟨#[76, 76, 69, 78]⟩, .int .i64 2, .bool false, .int .i64 1, .int .i64 1, .int .i64 1, .int .i64 0], .bool true]) ∧ w' = (W.alloc (.cells #[.string ⟨#[76, 76, 69, 78]⟩, .int .i64 2, .bool false, .int .i64 1, .int .i64 1, .int .i64 1, .int .i64 0] 26)).alloc (.cells #[.string ⟨#[76, 76, 69, 78]⟩, .int .i64 2, .bool false, .int .i64 1, .int .i64 1, .int .i64 1, .int .i64 0] 26)) := hide read_LLEN
  go_enter Tryd.func5, Tryd.ntmps5
  go_wp2_with (go_at_call 8; refine (unhide CR _).mono ?_; rintro e w1 ⟨rfl, rfl⟩)
  refine bodyPost_ret (res_cell_tmp (p := 2) (q := 3) (ty := 26) rfl _ _ w.heap.size 26 _ (0, 0) _ rfl ((Below.heap_alloc _ _ _ (by simp; omega)).trans ((Below.heap_alloc _ _ _ (by simp; omega)).trans ((Below.heap_alloc _ _ _ (by simp)).trans (heap_alloc_last w _)))) Tryd.underlying26 rfl (by kernel_rfl) _ rfl) rfl ⟨rfl, ((((Below.refl _ _).alloc (Nat.le_refl _) _).alloc (by simp) _).alloc (by simp; omega) _).alloc (by simp; omega) _⟩
theorem row_LMOVE (w : World) : Calls Tryd.prog 5 #[.string ⟨#[76, 77, 79, 86, 69]⟩] w fun e w' => e = .returned (.tuple #[.agg #[.string ⟨#[76, 77, 79, 86, 69]⟩, .int .i64 5, .bool true, .int .i64 1, .int .i64 2, .int .i64 1, .int .i64 0], .bool true]) ∧ Below w.heap.size w w' := by
  go_enter Tryd.func5, Tryd.ntmps5
  go_wp2
  refine bodyPost_ret (res_cell_tmp (p := 2) (q := 3) (ty := 26) rfl _ _ w.heap.size 26 _ (0, 0) _ rfl ((Below.heap_alloc _ _ _ (by simp)).trans (heap_alloc_last w _)) Tryd.underlying26 rfl (by kernel_rfl) _ rfl) rfl ⟨rfl, ((Below.refl _ _).alloc (Nat.le_refl _) _).alloc (by simp) _⟩
theorem row_LMPOP (w : World) : Calls Tryd.prog 5 #[.string ⟨#[76, 77, 80, 79, 80]⟩] w fun e w' => e = .returned (.tuple #[.agg #[.string ⟨#[76, 77, 80, 79, 80]⟩, .int .i64 (-4), .bool true, .int .i64 0, .int .i64 0, .int .i64 0, .int .i64 1], .bool true]) ∧ Below w.heap.size w w' := by
  go_enter Tryd.func5, Tryd.ntmps5
  go_wp2
  refine bodyPost_ret (res_cell_tmp (p := 2) (q := 3) (ty := 26) rfl _ _ w.heap.size 26 _ (0, 0) _ rfl ((Below.heap_alloc _ _ _ (by simp)).trans (heap_alloc_last w _)) Tryd.underlying26 rfl (by kernel_rfl) _ rfl) rfl ⟨rfl, ((Below.refl _ _).alloc (Nat.le_refl _) _).alloc (by simp) _⟩
theorem row_LPOP (w : World) : Calls Tryd.prog 5 #[.string ⟨#[76, 80, 79, 80]⟩] w fun e w' => e = .returned (.tuple #[.agg #[.string ⟨#[76, 80, 79, 80]⟩, .int .i64 (-2), .bool true, .int .i64 1, .int .i64 1, .int .i64 1, .int .i64 0], .bool true]) ∧ Below w.heap.size w w' := by
  go_enter Tryd.func5, Tryd.ntmps5
  go_wp2
  refine bodyPost_ret (res_cell_tmp (p := 2) (q := 3) (ty := 26) rfl _ _ w.heap.size 26 _ (0, 0) _ rfl ((Below.heap_alloc _ _ _ (by simp)).trans (heap_alloc_last w _)) Tryd.underlying26 rfl (by kernel_rfl) _ rfl) rfl ⟨rfl, ((Below.refl _ _).alloc (Nat.le_refl _) _).alloc (by simp) _⟩
theorem row_LPOS (w : World) : Calls Tryd.prog 5 #[.string ⟨#[76, 80, 79, 83]⟩] w fun e w' => e = .returned (.tuple #[.agg #[.string ⟨#[76, 80, 79, 83]⟩, .int .i64 (-3), .bool false, .int .i64 1, .int .i64 1, .int .i64 1, .int .i64 0], .bool true]) ∧ Below w.heap.size w w' := by
  have CR : Hid (∀ W, Calls Tryd.prog 8 #[.string ⟨#[76, 80, 79, 83]⟩] W fun e w' => e = .returned (.tuple #[.agg #[.string ⟨#[76, 80, 79, 83]⟩, .int .i64 (-3), .bool false, .int .i64 1, .int .i64 1, .int .i64 1, .int .i64 0], .bool true]) ∧ w' = (W.alloc (.cells #[.string ⟨#[76, 80, 79, 83]⟩, .int .i64 (-3), .bool false, .int .i64 1, .int .i64 1, .int .i64 1, .int .i64 0] 26)).alloc (.cells #[.string ⟨#[76, 80, 79, 83]⟩, .int .i64 (-3), .bool false, .int .i64 1, .int .i64 1, .int .i64 1, .int .i64 0] 26)) := hide read_LPOS
  go_enter Tryd.func5, Tryd.ntmps5
  go_wp2_with (go_at_call 8; refine (unhide CR _).mono ?_; rintro e w1 ⟨rfl, rfl⟩)
  refine bodyPost_ret (res_cell_tmp (p := 2) (q := 3) (ty := 26) rfl _ _ w.heap.size 26 _ (0, 0) _ rfl ((Below.heap_alloc _ _ _ (by simp; omega)).trans ((Below.heap_alloc _ _ _ (by simp; omega)).trans ((Below.heap_alloc _ _ _ (by simp)).trans (heap_alloc_last w _)))) Tryd.underlying26 rfl (by kernel_rfl) _ rfl) rfl ⟨rfl, ((((Below.refl _ _).alloc (Nat.le_refl _) _).alloc (by simp) _).alloc (by simp; omega) _).alloc (by simp; omega) _⟩
theorem row_LPUSH (w : World) : Calls Tryd.prog 5 #[.string ⟨#[76, 80, 85, 83, 72]⟩] w fun e w' => e = .returned (.tuple #[.agg #[.string ⟨#[76, 80, 85, 83, 72]⟩, .int .i64 (-3), .bool true, .int .i64 1, .int .i64 1, .int .i64 1, .int .i64 0], .bool true]) ∧ Below w.heap.size w w' := by
  go_enter Tryd.func5, Tryd.ntmps5
  go_wp2
  refine bodyPost_ret (res_cell_tmp (p := 2) (q := 3) (ty := 26) rfl _ _ w.heap.size 26 _ (0, 0) _ rfl ((Below.heap_alloc _ _ _ (by simp)).trans (heap_alloc_last w _)) Tryd.underlying26 rfl (by kernel_rfl) _ rfl) rfl ⟨rfl, ((Below.refl _ _).alloc (Nat.le_refl _) _).alloc (by simp) _⟩
theorem row_LPUSHX (w : World) : Calls Tryd.prog 5 #[.string ⟨#[76, 80, 85, 83, 72, 88]⟩] w fun e w' => e = .returned (.tuple #[.agg #[.string ⟨#[76, 80, 85, 83, 72, 88]⟩, .int .i64 (-3), .bool true, .int .i64 1, .int .i64 1, .int .i64 1, .int .i64 0], .bool true]) ∧ Below w.heap.size w w' := by
  go_enter Tryd.func5, Tryd.ntmps5
  go_wp2
  refine bodyPost_ret (res_cell_tmp (p := 2) (q := 3) (ty := 26) rfl _ _ w.heap.size 26 _ (0, 0) _ rfl ((Below.heap_alloc _ _ _ (by simp)).trans (heap_alloc_last w _)) Tryd.underlying26 rfl (by kernel_rfl) _ rfl) rfl ⟨rfl, ((Below.refl _ _).alloc (Nat.le_refl _) _).alloc (by simp) _⟩
theorem row_LRANGE (w : World) : Calls Tryd.prog 5 #[.string ⟨#[76, 82, 65, 78, 71, 69]⟩] w fun e w' => e = .returned (.tuple #[.agg #[.string ⟨#[76, 82, 65, 78, 71, 69]⟩, .int .i64 4, .bool false, .int .i64 1, .int .i64 1, .int .i64 1, .int .i64 0], .bool true]) ∧ Below w.heap.size w w' := by
  have CR : Hid (∀ W, Calls Tryd.prog 8 #[.string ⟨#[76, 82, 65, 78, 71, 69]⟩] W fun e w' => e = .returned (.tuple #[.agg #[.string ⟨#[76, 82, 65, 78, 71, 69]⟩, .int .i64 4, .bool false, .int .i64 1, .int .i64 1, .int .i64 1, .int .i64 0], .bool true]) ∧ w' = (W.alloc (.cells #[.string ⟨#[76, 82, 65, 78, 71, 69]⟩, .int .i64 4, .bool false, .int .i64 1, .int .i64 1, .int .i64 1, .int .i64 0] 26)).alloc (.cells #[.string ⟨#[76, 82, 65, 78, 71, 69]⟩, .int .i64 4, .bool false, .int .i64 1, .int .i64 1, .int .i64 1, .int .i64 0] 26)) := hide read_LRANGE
  go_enter Tryd.func5, Tryd.ntmps5
  go_wp2_with (go_at_call 8; refine (unhide CR _).mono ?_; rintro e w1 ⟨rfl, rfl⟩)
  refine bodyPost_ret (res_cell_tmp (p := 2) (q := 3) (ty := 26) rfl _ _ w.heap.size 26 _ (0, 0) _ rfl ((Below.heap_alloc _ _ _ (by simp; omega)).trans ((Below.heap_alloc _ _ _ (by simp; omega)).trans ((Below.heap_alloc _ _ _ (by simp)).trans (heap_alloc_last w _)))) Tryd.underlying26 rfl (by kernel_rfl) _ rfl) rfl ⟨rfl, ((((Below.refl _ _).alloc (Nat.le_refl _) _).alloc (by simp) _).alloc (by simp; omega) _).alloc (by simp; omega) _⟩
theorem row_LREM (w : World) : Calls Tryd.prog 5 #[.string ⟨#[76, 82, 69, 77]⟩] w fun e w' => e = .returned (.tuple #[.agg #[.string ⟨#[76, 82, 69, 77]⟩, .int .i64 4, .bool true, .int .i64 1, .int .i64 1, .int .i64 1, .int .i64 0], .bool true]) ∧ Below w.heap.size w w' := by
  go_enter Tryd.func5, Tryd.ntmps5
  go_wp2
  refine bodyPost_ret (res_cell_tmp (p := 2) (q := 3) (ty := 26) rfl _ _ w.heap.size 26 _ (0, 0) _ rfl ((Below.heap_alloc _ _ _ (by simp)).trans (heap_alloc_last w _)) Tryd.underlying26 rfl (by kernel_rfl) _ rfl) rfl ⟨rfl, ((Below.refl _ _).alloc (Nat.le_refl _) _).alloc (by simp) _⟩
theorem row_LSET (w : World) : Calls Tryd.prog 5 #[.string ⟨#[76, 83, 69, 84]⟩] w fun e w' => e = .returned (.tuple #[.agg #[.string ⟨#[76, 83, 69, 84]⟩, .int .i64 4, .bool true, .int .i64 1, .int .i64 1, .int .i64 1, .int .i64 0], .bool true]) ∧ Below w.heap.size w w' := by
  go_enter Tryd.func5, Tryd.ntmps5
  go_wp2
  refine bodyPost_ret (res_cell_tmp (p := 2) (q := 3) (ty := 26) rfl _ _ w.heap.size 26 _ (0, 0) _ rfl ((Below.heap_alloc _ _ _ (by simp)).trans (heap_alloc_last w _)) Tryd.underlying26 rfl (by kernel_rfl) _ rfl) rfl ⟨rfl, ((Below.refl _ _).alloc (Nat.le_refl _) _).alloc (by simp) _⟩
theorem row_LTRIM (w : World) : Calls Tryd.prog 5 #[.string ⟨#[76, 84, 82, 73, 77]⟩] w fun e w' => e = .returned (.tuple #[.agg #[.string ⟨#[76, 84, 82, 73, 77]⟩, .int .i64 4, .bool true, .int .i64 1, .int .i64 1, .int .i64 1, .int .i64 0], .bool true]) ∧ Below w.heap.size w w' := by
  go_enter Tryd.func5, Tryd.ntmps5
  go_wp2
  refine bodyPost_ret (res_cell_tmp (p := 2) (q := 3) (ty := 26) rfl _ _ w.heap.size 26 _ (0, 0) _ rfl ((Below.heap_alloc _ _ _ (by simp)).trans (heap_alloc_last w _)) Tryd.underlying26 rfl (by kernel_rfl) _ rfl) rfl ⟨rfl, ((Below.refl _ _).alloc (Nat.le_refl _) _).alloc (by simp) _⟩
theorem row_RPOP (w : World) : Calls Tryd.prog 5 #[.string ⟨#[82, 80, 79, 80]⟩] w fun e w' => e = .returned (.tuple #[.agg #[.string ⟨#[82, 80, 79, 80]⟩, .int .i64 (-2), .bool true, .int .i64 1, .int .i64 1, .int .i64 1, .int .i64 0], .bool true]) ∧ Below w.heap.size w w' := by
  go_enter Tryd.func5, Tryd.ntmps5
  go_wp2
  refine bodyPost_ret (res_cell_tmp (p := 2) (q := 3) (ty := 26) rfl _ _ w.heap.size 26 _ (0, 0) _ rfl ((Below.heap_alloc _ _ _ (by simp)).trans (heap_alloc_last w _)) Tryd.underlying26 rfl (by kernel_rfl) _ rfl) rfl ⟨rfl, ((Below.refl _ _).alloc (Nat.le_refl _) _).alloc (by simp) _⟩
theorem row_RPOPLPUSH (w : World) : Calls Tryd.prog 5 #[.string ⟨#[82, 80, 79, 80, 76, 80, 85, 83, 72]⟩] w fun e w' => e = .returned (.tuple #[.agg #[.string ⟨#[82, 80, 79, 80, 76, 80, 85, 83, 72]⟩, .int .i64 3, .bool true, .int .i64 1, .int .i64 2, .int .i64 1, .int .i64 0], .bool true]) ∧ Below w.heap.size w w' := by
  go_enter Tryd.func5, Tryd.ntmps5
  go_wp2
  refine bodyPost_ret (res_cell_tmp (p := 2) (q := 3) (ty := 26) rfl _ _ w.heap.size 26 _ (0, 0) _ rfl ((Below.heap_alloc _ _ _ (by simp)).trans (heap_alloc_last w _)) Tryd.underlying26 rfl (by kernel_rfl) _ rfl) rfl ⟨rfl, ((Below.refl _ _).alloc (Nat.le_refl _) _).alloc (by simp) _⟩
theorem row_RPUSH (w : World) : Calls Tryd.prog 5 #[.string ⟨#[82, 80, 85, 83, 72]⟩] w fun e w' => e = .returned (.tuple #[.agg #[.string ⟨#[82, 80, 85, 83, 72]⟩, .int .i64 (-3), .bool true, .int .i64 1, .int .i64 1, .int .i64 1, .int .i64 0], .bool true]) ∧ Below w.heap.size w w' := by
  go_enter Tryd.func5, Tryd.ntmps5
  go_wp2
  refine bodyPost_ret (res_cell_tmp (p := 2) (q := 3) (ty := 26) rfl _ _ w.heap.size 26 _ (0, 0) _ rfl ((Below.heap_alloc _ _ _ (by simp)).trans (heap_alloc_last w _)) Tryd.underlying26 rfl (by kernel_rfl) _ rfl) rfl ⟨rfl, ((Below.refl _ _).alloc (Nat.le_refl _) _).alloc (by simp) _⟩
theorem row_RPUSHX (w : World) : Calls Tryd.prog 5 #[.string ⟨#[82, 80, 85, 83, 72, 88]⟩] w fun e w' => e = .returned (.tuple #[.agg #[.string ⟨#[82, 80, 85, 83, 72, 88]⟩, .int .i64 (-3), .bool true, .int .i64 1, .int .i64 1, .int .i64 1, .int .i64 0], .bool true]) ∧ Below w.heap.size w w' := by
  go_enter Tryd.func5, Tryd.ntmps5
  go_wp2
  refine bodyPost_ret (res_cell_tmp (p := 2) (q := 3) (ty := 26) rfl _ _ w.heap.size 26 _ (0, 0) _ rfl ((Below.heap_alloc _ _ _ (by simp)).trans (heap_alloc_last w _)) Tryd.underlying26 rfl (by kernel_rfl) _ rfl) rfl ⟨rfl, ((Below.refl _ _).alloc (Nat.le_refl _) _).alloc (by simp) _⟩
/-- the row of every name -/
theorem row_any (c : Cm) (hc : c ∈ tabC) (w : World) : Calls Tryd.prog 5 #[.string ⟨c.n.toArray⟩] w fun e w' => e = .returned (.tuple #[.agg c.row.toArray, .bool true]) ∧ Below w.heap.size w w' := by
  simp only [tabC, List.mem_cons, List.not_mem_nil, or_false] at hc
  rcases hc with rfl | rfl | rfl | rfl | rfl | rfl | rfl | rfl | rfl | rfl | rfl | rfl | rfl | rfl | rfl | rfl | rfl
  · exact row_LINDEX w
  · exact row_LINSERT w
  · exact row_LLEN w
  · exact row_LMOVE w
  · exact row_LMPOP w
  · exact row_LPOP w
  · exact row_LPOS w
  · exact row_LPUSH w
  · exact row_LPUSHX w
  · exact row_LRANGE w
  · exact row_LREM w
  · exact row_LSET w
  · exact row_LTRIM w
  · exact row_RPOP w
  · exact row_RPOPLPUSH w
  · exact row_RPUSH w
  · exact row_RPUSHX w
end Go.Proofs.YtbbmhipkelpmlaaDoor
