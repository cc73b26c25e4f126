/- Stats: the walk. -/
import Derived.Test.YtidfllgaeiopjaaGreatHEnds
namespace Go.Proofs.YtidfllgaeiopjaaGreat
open Go.ChangeShapes Go.WideShapes Go.ChangeAt Go.RowKit
set_option linter.unusedVariables false
set_option maxRecDepth 100000
set_option maxHeartbeats 1000000

theorem und47 : ∃ fs, Tryz.prog.underlying 47 = some (.struct fs) := ⟨_, by rfl⟩
theorem inf47 : (Tryz.prog.info? 47).map (·.size) = some 9 := by rfl
theorem stat_res {w : World} {lim half used lg cb ch co rs mv : Int} (tmps : Array Value) (ht : tmps.getD 2 undef = .pointer (some ⟨w.heap.size, 0, none⟩)) :
    (results Tryz.f16 tmps).run Tryz.prog (w.alloc (.cells #[.int .i64 lim, .int .i64 half, .int .i64 used, .int .i64 lg, .int .i64 cb, .int .i64 ch, .int .i64 co, .int .i64 rs, .int .i64 mv] 47)).drew = .ok (.agg #[.int .i64 lim, .int .i64 half, .int .i64 used, .int .i64 lg, .int .i64 cb, .int .i64 ch, .int .i64 co, .int .i64 rs, .int .i64 mv]) (w.alloc (.cells #[.int .i64 lim, .int .i64 half, .int .i64 used, .int .i64 lg, .int .i64 cb, .int .i64 ch, .int .i64 co, .int .i64 rs, .int .i64 mv] 47)).drew := by
  obtain ⟨fs, h1⟩ := und47
  exact results_cell_row (p := 2) (ty := 47) rfl tmps _ w.heap.size 47 _ (0, 0) (.struct fs) ht (heap_alloc_new _ _) h1 rfl inf47

theorem below_ad (w : World) (o : Obj) : Below w.heap.size w (w.alloc o).drew :=
  ((Below.refl _ _).alloc (Nat.le_refl _) o).trans ((Still.below (w := w.alloc o) (w' := (w.alloc o).drew) ⟨rfl, rfl, rfl, rfl⟩).mono (by show w.heap.size ≤ (w.alloc o).heap.size; simp))
theorem hstats_walk {w : World} {ph pa lim half used lg cb ch co rs mv : Nat} (e0 : w.cell? ⟨ph, 0, none⟩ = some (.int .i64 (lim : Nat))) (e1 : w.cell? ⟨ph, 1, none⟩ = some (.pointer (some ⟨pa, 0, none⟩)))
    (e9 : w.cell? ⟨ph, 9, none⟩ = some (.int .i64 (lg : Nat))) (e5 : w.cell? ⟨ph, 5, none⟩ = some (.int .i64 (cb : Nat))) (e8 : w.cell? ⟨ph, 8, none⟩ = some (.int .i64 (ch : Nat)))
    (e11 : w.cell? ⟨ph, 11, none⟩ = some (.int .i64 (mv : Nat))) (e12 : w.cell? ⟨ph, 12, none⟩ = some (.int .i64 (co : Nat))) (e13 : w.cell? ⟨ph, 13, none⟩ = some (.int .i64 (rs : Nat)))
    (HU : ∀ W, Below w.heap.size w W → Calls Tryz.prog 43 #[.pointer (some ⟨pa, 0, none⟩)] W fun e w' => e = .returned (.int .i64 (used : Nat)) ∧ w' = W)
    (HS : ∀ W, Below w.heap.size w W → Calls Tryz.prog 42 #[.pointer (some ⟨pa, 0, none⟩)] W fun e w' => e = .returned (.int .i64 (half : Nat)) ∧ w' = W) :
    Calls Tryz.prog 16 #[.pointer (some ⟨ph, 0, none⟩)] w fun e w' => e = .returned (.agg #[.int .i64 (lim : Nat), .int .i64 (half : Nat), .int .i64 (used : Nat), .int .i64 (lg : Nat), .int .i64 (cb : Nat), .int .i64 (ch : Nat), .int .i64 (co : Nat), .int .i64 (rs : Nat), .int .i64 (mv : Nat)]) ∧ Below w.heap.size w w' := by
  have H1 := hide HU
  have H2 := hide HS
  clear HU HS
  go_enter Tryz.func16, Tryz.ntmps16
  go_wp2
  go_region_held3 (fun w' => w'.cell? ⟨ph, 0, none⟩ = some (.int .i64 (lim : Nat)) ∧ w'.cell? ⟨ph, 1, none⟩ = some (.pointer (some ⟨pa, 0, none⟩)) ∧ w'.cell? ⟨ph, 9, none⟩ = some (.int .i64 (lg : Nat)) ∧ w'.cell? ⟨ph, 5, none⟩ = some (.int .i64 (cb : Nat)) ∧ w'.cell? ⟨ph, 8, none⟩ = some (.int .i64 (ch : Nat)) ∧ w'.cell? ⟨ph, 11, none⟩ = some (.int .i64 (mv : Nat)) ∧ w'.cell? ⟨ph, 12, none⟩ = some (.int .i64 (co : Nat)) ∧ w'.cell? ⟨ph, 13, none⟩ = some (.int .i64 (rs : Nat))) (go_keep) (first | (go_at_call 42; refine (unhide H2 _ (below_ad w _)).mono ?_; rintro e w5 ⟨rfl, rfl⟩) | (go_at_call 43; refine (unhide H1 _ (below_ad w _)).mono ?_; rintro e w6 ⟨rfl, rfl⟩))
  all_goals go_wp2
  all_goals exact bodyPost_ret (stat_res _ rfl) rfl ⟨rfl, below_ad w _⟩
end Go.Proofs.YtidfllgaeiopjaaGreat
