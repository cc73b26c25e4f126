/- Stats: the walk. -/
import Derived.Test.YtidfllgaeiopjaaGreatEqw
import Derived.Test.YtidfllgaeiopjaaGreatTakeAll
namespace Go.Proofs.YtidfllgaeiopjaaGreat
open Go.ChangeShapes Go.WideShapes Go.ChangeAt Go.RowKit
set_option linter.unusedVariables false
set_option maxRecDepth 100000
set_option maxHeartbeats 1000000

theorem alloc_bad {w : World} {ph : Nat} (k r s : Int) (h : ¬ Fits k r s) :
    Calls Tryz.prog 25 #[.pointer (some ⟨ph, 0, none⟩), .int .i64 k, .int .i64 r, .int .i64 s] w fun e w' => e = .returned (.tuple #[.int .u64 0, .int .i64 34]) ∧ w' = w := by
  have H1 := hide (head_no k r s w h)
  clear h
  go_enter Tryz.func25, Tryz.ntmps25
  go_wp2_with fail
  refine (unhide H1).mono ?_
  clear H1
  rintro e w1 ⟨rfl, rfl⟩
  go_wp2
  go_ret2
  exact ⟨rfl, rfl⟩
theorem alloc_small {w : World} {ph k r s : Nat} (h : Fits k r s) (hs : 1 + r + s ≤ 64) {R : Ending → World → Prop}
    (HS : Calls Tryz.prog 52 #[.pointer (some ⟨ph, 0, none⟩), .int .i64 (k : Nat), .int .i64 (r : Nat), .int .i64 (s : Nat), .int .i64 ((1 + r + s : Nat) : Int)] w fun e w' => (∃ v x : Int, e = .returned (.tuple #[.int .u64 v, .int .i64 x])) ∧ R e w') :
    Calls Tryz.prog 25 #[.pointer (some ⟨ph, 0, none⟩), .int .i64 (k : Nat), .int .i64 (r : Nat), .int .i64 (s : Nat)] w fun e w' => R e w' := by
  have H1 := hide (head_yes k r s w h)
  have H2 := hide HS
  have a1 : IntKind.i64.wrap ((1 : Int) + (r : Nat)) = (1 : Int) + (r : Nat) := wrap_small _ (by omega) (by omega)
  have a2 : IntKind.i64.wrap ((1 : Int) + (r : Nat) + (s : Nat)) = ((1 + r + s : Nat) : Int) := by rw [show (1 : Int) + (r : Nat) + (s : Nat) = ((1 + r + s : Nat) : Int) by omega]; exact wrap_small _ (by omega) (by omega)
  have d1 : decide ((64 : Int) < ((1 + r + s : Nat) : Int)) = false := decide_eq_false (by omega)
  clear HS h
  obtain ⟨z, hz⟩ : ∃ z, 1 + r + s = z := ⟨_, rfl⟩
  rw [hz] at H2 a2 d1
  clear hz hs
  go_enter Tryz.func25, Tryz.ntmps25
  go_wp2_with fail
  refine (unhide H1).mono ?_
  clear H1
  rintro e w1 ⟨rfl, rfl⟩
  go_wp2_with fail
  refine (unhide H2).mono ?_
  clear H2
  rintro e w2 ⟨⟨v, x, rfl⟩, hR⟩
  go_wp2
  exact hR
theorem alloc_large {w : World} {ph k r s : Nat} (h : Fits k r s) (hs : 64 < 1 + r + s) {R : Ending → World → Prop}
    (HS : Calls Tryz.prog 51 #[.pointer (some ⟨ph, 0, none⟩), .int .i64 (k : Nat), .int .i64 (r : Nat), .int .i64 (s : Nat), .int .i64 ((2 + r + s : Nat) : Int)] w fun e w' => (∃ v x : Int, e = .returned (.tuple #[.int .u64 v, .int .i64 x])) ∧ R e w') :
    Calls Tryz.prog 25 #[.pointer (some ⟨ph, 0, none⟩), .int .i64 (k : Nat), .int .i64 (r : Nat), .int .i64 (s : Nat)] w fun e w' => R e w' := by
  have H1 := hide (head_yes k r s w h)
  have H2 := hide HS
  have f1 : (r : Int) ≤ 1048576 := h.2.2.2.1
  have f2 : (s : Int) ≤ 1048576 := h.2.2.2.2.2
  have a1 : IntKind.i64.wrap ((1 : Int) + (r : Nat)) = (1 : Int) + (r : Nat) := wrap_small _ (by omega) (by omega)
  obtain ⟨z, hz⟩ : ∃ z, 1 + r + s = z := ⟨_, rfl⟩
  have hz2 : 2 + r + s = 1 + z := by omega
  have a2 : IntKind.i64.wrap ((1 : Int) + (r : Nat) + (s : Nat)) = (z : Int) := by rw [show (1 : Int) + (r : Nat) + (s : Nat) = (z : Int) by omega]; exact wrap_small _ (by omega) (by omega)
  obtain ⟨y, hy⟩ : ∃ y, 1 + z = y := ⟨_, rfl⟩
  have a3 : IntKind.i64.wrap ((1 : Int) + (z : Nat)) = (y : Int) := by rw [show (1 : Int) + (z : Nat) = (y : Int) by omega]; exact wrap_small _ (by omega) (by omega)
  have d1 : decide ((64 : Int) < (z : Int)) = true := decide_eq_true (by omega)
  rw [hz2, hy] at H2
  clear HS h
  go_enter Tryz.func25, Tryz.ntmps25
  go_wp2_with fail
  refine (unhide H1).mono ?_
  clear H1
  rintro e w1 ⟨rfl, rfl⟩
  go_wp2_with fail
  refine (unhide H2).mono ?_
  clear H2
  rintro e w2 ⟨⟨v, x, rfl⟩, hR⟩
  go_wp2
  exact hR

theorem himage_walk {w : World} {ph pa : Nat} (e1 : w.cell? ⟨ph, 1, none⟩ = some (.pointer (some ⟨pa, 0, none⟩))) {R : Value → World → Prop}
    (HI : Calls Tryz.prog 41 #[.pointer (some ⟨pa, 0, none⟩)] w fun e w' => ∃ a n c, e = .returned (.slice a n c) ∧ R (.slice a n c) w') :
    Calls Tryz.prog 15 #[.pointer (some ⟨ph, 0, none⟩)] w fun e w' => ∃ v, e = .returned v ∧ R v w' := by
  have H1 := hide HI
  clear HI
  go_enter Tryz.func15, Tryz.ntmps15
  go_wp2_with fail
  refine (unhide H1).mono ?_
  clear H1
  rintro e w1 ⟨a, n, c, rfl, hR⟩
  go_wp2
  go_ret
  exact ⟨_, rfl, hR⟩

theorem hnew_bad {w : World} {n : Int} (h : n < 128 ∨ 1048576 < n) :
    Calls Tryz.prog 24 #[.int .i64 n] w fun e w' => e = .returned (.tuple #[.pointer none, .int .i64 30]) ∧ w' = w := by
  by_cases h1 : n < 128
  · have d1 : decide (n < 128) = true := decide_eq_true h1
    go_enter Tryz.func24, Tryz.ntmps24
    go_wp2
    go_ret2
    exact ⟨rfl, rfl⟩
  · have d1 : decide (n < 128) = false := decide_eq_false h1
    have d2 : decide (1048576 < n) = true := decide_eq_true (by omega)
    go_enter Tryz.func24, Tryz.ntmps24
    go_wp2
    go_ret2
    exact ⟨rfl, rfl⟩
theorem hnew_walk {w : World} {n : Nat} (h1 : 128 ≤ n) (h2 : n ≤ 1048576) {G1 : (Nat × Nat × Nat) → World → Prop} {G2 : (Nat × Nat × Nat) → (Nat × Nat × Nat) → World → Prop}
    (HN : Calls Tryz.prog 49 #[.int .i64 64] w fun e w' => ∃ a : Nat × Nat × Nat, e = .returned (.pointer (some ⟨a.1, 0, none⟩)) ∧ G1 a w')
    (HN2 : ∀ a W, G1 a W → Calls Tryz.prog 49 #[.int .i64 64] W fun e w' => ∃ s : Nat × Nat × Nat, e = .returned (.pointer (some ⟨s.1, 0, none⟩)) ∧ G2 a s w') :
    Calls Tryz.prog 24 #[.int .i64 (n : Nat)] w fun e w' => ∃ (a s : Nat × Nat × Nat) (w2 : World), G2 a s w2 ∧ w' = w2.alloc (.cells #[.int .i64 (n : Nat), .pointer (some ⟨a.1, 0, none⟩), .pointer (some ⟨s.1, 0, none⟩), .slice none 0 0, .slice none 0 0, .int .i64 0, .slice none 0 0, .slice none 0 0, .int .i64 0, .int .i64 0, .int .i64 0, .int .i64 0, .int .i64 0, .int .i64 0] 87) ∧ e = .returned (.tuple #[.pointer (some ⟨w2.heap.size, 0, none⟩), .int .i64 0]) := by
  have H1 := hide HN
  have H2 := hide HN2
  have d1 : decide ((n : Int) < 128) = false := decide_eq_false (by omega)
  have d2 : decide ((1048576 : Int) < (n : Nat)) = false := decide_eq_false (by omega)
  clear HN HN2
  go_enter Tryz.func24, Tryz.ntmps24
  go_wp2_with fail
  refine (unhide H1).mono ?_
  clear H1
  rintro e w1 ⟨a, rfl, hg1⟩
  have H2' := hide (unhide H2 a w1 hg1)
  clear H2 hg1
  go_wp2_with fail
  refine (unhide H2').mono ?_
  clear H2'
  rintro e w2 ⟨s, rfl, hg2⟩
  go_wp2
  go_ret2
  exact ⟨a, s, w2, hg2, rfl, rfl⟩
end Go.Proofs.YtidfllgaeiopjaaGreat
namespace Go.Proofs.YtidfllgaeiopjaaGreat
open Go.ChangeShapes Go.WideShapes Go.ChangeAt Go.RowKit
set_option linter.unusedVariables false
set_option maxRecDepth 100000
set_option maxHeartbeats 1000000

theorem und47 : ∃ fs, Tryz.prog.underlying 47 = some (.struct fs) := ⟨_, by rfl⟩
theorem inf47 : (Tryz.prog.info? 47).map (·.size) = some 9 := by rfl
theorem stat_res {w : World} {lim half used lg cb ch co rs mv : Int} (tmps : Array Value) (ht : tmps.getD 2 undef = .pointer (some ⟨w.heap.size, 0, none⟩)) :
    (results Tryz.f16 tmps).run Tryz.prog (w.alloc (.cells #[.int .i64 lim, .int .i64 half, .int .i64 used, .int .i64 lg, .int .i64 cb, .int .i64 ch, .int .i64 co, .int .i64 rs, .int .i64 mv] 47)).drew = .ok (.agg #[.int .i64 lim, .int .i64 half, .int .i64 used, .int .i64 lg, .int .i64 cb, .int .i64 ch, .int .i64 co, .int .i64 rs, .int .i64 mv]) (w.alloc (.cells #[.int .i64 lim, .int .i64 half, .int .i64 used, .int .i64 lg, .int .i64 cb, .int .i64 ch, .int .i64 co, .int .i64 rs, .int .i64 mv] 47)).drew := by
  obtain ⟨fs, h1⟩ := und47
  exact results_cell_row (p := 2) (ty := 47) rfl tmps _ w.heap.size 47 _ (0, 0) (.struct fs) ht (heap_alloc_new _ _) h1 rfl inf47

theorem below_ad (w : World) (o : Obj) : Below w.heap.size w (w.alloc o).drew :=
  ((Below.refl _ _).alloc (Nat.le_refl _) o).trans ((Still.below (w := w.alloc o) (w' := (w.alloc o).drew) ⟨rfl, rfl, rfl, rfl⟩).mono (by show w.heap.size ≤ (w.alloc o).heap.size; simp))
theorem hstats_walk {w : World} {ph pa lim half used lg cb ch co rs mv : Nat} (e0 : w.cell? ⟨ph, 0, none⟩ = some (.int .i64 (lim : Nat))) (e1 : w.cell? ⟨ph, 1, none⟩ = some (.pointer (some ⟨pa, 0, none⟩)))
    (e9 : w.cell? ⟨ph, 9, none⟩ = some (.int .i64 (lg : Nat))) (e5 : w.cell? ⟨ph, 5, none⟩ = some (.int .i64 (cb : Nat))) (e8 : w.cell? ⟨ph, 8, none⟩ = some (.int .i64 (ch : Nat)))
    (e11 : w.cell? ⟨ph, 11, none⟩ = some (.int .i64 (mv : Nat))) (e12 : w.cell? ⟨ph, 12, none⟩ = some (.int .i64 (co : Nat))) (e13 : w.cell? ⟨ph, 13, none⟩ = some (.int .i64 (rs : Nat)))
    (HU : ∀ W, Below w.heap.size w W → Calls Tryz.prog 43 #[.pointer (some ⟨pa, 0, none⟩)] W fun e w' => e = .returned (.int .i64 (used : Nat)) ∧ w' = W)
    (HS : ∀ W, Below w.heap.size w W → Calls Tryz.prog 42 #[.pointer (some ⟨pa, 0, none⟩)] W fun e w' => e = .returned (.int .i64 (half : Nat)) ∧ w' = W) :
    Calls Tryz.prog 16 #[.pointer (some ⟨ph, 0, none⟩)] w fun e w' => e = .returned (.agg #[.int .i64 (lim : Nat), .int .i64 (half : Nat), .int .i64 (used : Nat), .int .i64 (lg : Nat), .int .i64 (cb : Nat), .int .i64 (ch : Nat), .int .i64 (co : Nat), .int .i64 (rs : Nat), .int .i64 (mv : Nat)]) ∧ Below w.heap.size w w' := by
  have H1 := hide HU
  have H2 := hide HS
  clear HU HS
  go_enter Tryz.func16, Tryz.ntmps16
  go_wp2
  go_region_held3 (fun w' => w'.cell? ⟨ph, 0, none⟩ = some (.int .i64 (lim : Nat)) ∧ w'.cell? ⟨ph, 1, none⟩ = some (.pointer (some ⟨pa, 0, none⟩)) ∧ w'.cell? ⟨ph, 9, none⟩ = some (.int .i64 (lg : Nat)) ∧ w'.cell? ⟨ph, 5, none⟩ = some (.int .i64 (cb : Nat)) ∧ w'.cell? ⟨ph, 8, none⟩ = some (.int .i64 (ch : Nat)) ∧ w'.cell? ⟨ph, 11, none⟩ = some (.int .i64 (mv : Nat)) ∧ w'.cell? ⟨ph, 12, none⟩ = some (.int .i64 (co : Nat)) ∧ w'.cell? ⟨ph, 13, none⟩ = some (.int .i64 (rs : Nat))) (go_keep) (first | (go_at_call 42; refine (unhide H2 _ (below_ad w _)).mono ?_; rintro e w5 ⟨rfl, rfl⟩) | (go_at_call 43; refine (unhide H1 _ (below_ad w _)).mono ?_; rintro e w6 ⟨rfl, rfl⟩))
  all_goals go_wp2
  all_goals exact bodyPost_ret (stat_res _ rfl) rfl ⟨rfl, below_ad w _⟩
end Go.Proofs.YtidfllgaeiopjaaGreat
