/- step, over the heap and its shadow. -/
import Derived.Test.YtidfllgaeiopjaaGreatStA
namespace Go.Proofs.YtidfllgaeiopjaaGreat
open Go.ChangeShapes Go.WideShapes Go.ChangeAt Go.RowKit
set_option linter.unusedVariables false
set_option linter.unusedSimpArgs false
set_option maxRecDepth 100000
set_option maxHeartbeats 1000000

theorem step_put0 {w : World} {ps ph : Nat} (A B Cc hh gg : Int) (vv : Nat) (dv vH : Value) (hod : dv.oneCell' = true) {hn : Int} (c0 : w.cell? ⟨ps, 0, none⟩ = some (.pointer (some ⟨ph, 0, none⟩))) (c2 : w.cell? ⟨ps, 2, none⟩ = some vH) (c4 : ∃ x, w.cell? ⟨ps, 4, none⟩ = some x) (f4 : w.frozen? ⟨ps, 4, none⟩ = false)
    (H30 : ∀ W, Below (w.heap.size + 1) ((w.setCell ⟨ps, 4, none⟩ (.int .i64 0)).alloc (mvB 6 A B Cc hh gg vv dv)) W → Calls Tryz.prog 30 #[.pointer (some ⟨ps, 0, none⟩), .int .i64 hh] W fun e w' => e = .returned (.int .i64 hn) ∧ Still W w')
    {hv : Int} (H33 : ∀ W, Below (w.heap.size + 1) ((w.setCell ⟨ps, 4, none⟩ (.int .i64 0)).alloc (mvB 6 A B Cc hh gg vv dv)) W → Calls Tryz.prog 33 #[.pointer (some ⟨ps, 0, none⟩), .int .i64 hn] W fun e w' => e = .returned (.int .i64 hv) ∧ Still W w' ) {hg tn : Int} (H30g : ∀ W, Below (w.heap.size + 1) ((w.setCell ⟨ps, 4, none⟩ (.int .i64 0)).alloc (mvB 6 A B Cc hh gg vv dv)) W → Calls Tryz.prog 30 #[.pointer (some ⟨ps, 0, none⟩), .int .i64 gg] W fun e w' => e = .returned (.int .i64 hg) ∧ Still W w') (H33g : ∀ W, Below (w.heap.size + 1) ((w.setCell ⟨ps, 4, none⟩ (.int .i64 0)).alloc (mvB 6 A B Cc hh gg vv dv)) W → Calls Tryz.prog 33 #[.pointer (some ⟨ps, 0, none⟩), .int .i64 hg] W fun e w' => e = .returned (.int .i64 tn) ∧ Still W w' ) {R : World → Prop} (hneg : hv < 0 ∨ tn < 0) (HR : ∀ W, Below (w.heap.size + 1) ((w.setCell ⟨ps, 4, none⟩ (.int .i64 0)).alloc (mvB 6 A B Cc hh gg vv dv)) W → R W) :
    Calls Tryz.prog 12 #[.pointer (some ⟨ps, 0, none⟩), mvV 6 A B Cc hh gg vv dv] w fun e w' => e = .returned (.bool true) ∧ R w' := by
  have hpl : ps < w.heap.size := block_lt_of_cell c0
  have hb : Below w.heap.size w (w.alloc (mvB 6 A B Cc hh gg vv dv)) := (Below.refl _ _).alloc (Nat.le_refl _) _
  have hz0 : (w.setCell ⟨ps, 4, none⟩ (.int .i64 0)).heap.size = w.heap.size := World.size_setCell _ _ _
  have hsz : ((w.setCell ⟨ps, 4, none⟩ (.int .i64 0)).alloc (mvB 6 A B Cc hh gg vv dv)).heap.size = w.heap.size + 1 := by simp
  have hb1 : Below w.heap.size (w.setCell ⟨ps, 4, none⟩ (.int .i64 0)) ((w.setCell ⟨ps, 4, none⟩ (.int .i64 0)).alloc (mvB 6 A B Cc hh gg vv dv)) := by rw [← hz0]; exact (Below.refl _ _).alloc (Nat.le_refl _) _
  have L0 : LimbS ps ph w.heap.size 6 A B Cc hh gg vv dv vH ((w.setCell ⟨ps, 4, none⟩ (.int .i64 0)).alloc (mvB 6 A B Cc hh gg vv dv)) := by
    refine ⟨?_, ?_, ?_⟩
    · rw [hb1.cell (p := ⟨ps, 0, none⟩) hpl, World.cell?_setCell_other _ _ _ _ (by simp)]; exact c0
    · rw [hb1.cell (p := ⟨ps, 2, none⟩) hpl, World.cell?_setCell_other _ _ _ _ (by simp)]; exact c2
    · have := Boxed.new (w.setCell ⟨ps, 4, none⟩ (.int .i64 0)) 6 A B Cc hh gg vv dv
      rw [hz0] at this
      exact this
  have hL : ∀ W, Below (w.heap.size + 1) ((w.setCell ⟨ps, 4, none⟩ (.int .i64 0)).alloc (mvB 6 A B Cc hh gg vv dv)) W → LimbS ps ph w.heap.size 6 A B Cc hh gg vv dv vH W := fun W k => L0.like (k.block ps (by omega)) (k.block w.heap.size (by omega))
  have hOn : ∀ W w', Below (w.heap.size + 1) ((w.setCell ⟨ps, 4, none⟩ (.int .i64 0)).alloc (mvB 6 A B Cc hh gg vv dv)) W → Below W.heap.size W w' → Below (w.heap.size + 1) ((w.setCell ⟨ps, 4, none⟩ (.int .i64 0)).alloc (mvB 6 A B Cc hh gg vv dv)) w' := fun W w' k q => k.trans (q.mono (by have := k.size; rw [hsz] at this; exact this))
  obtain ⟨x4, c4⟩ := c4
  have a0 := (hb.cell (p := ⟨ps, 4, none⟩) hpl).trans c4
  have a1 : (w.alloc (mvB 6 A B Cc hh gg vv dv)).frozen? ⟨ps, 4, none⟩ = false := by rw [← f4]; simp only [World.frozen?, hb.block ps hpl]
  have H30' : Hid (∀ W, Hid (Below (w.heap.size + 1) ((w.setCell ⟨ps, 4, none⟩ (.int .i64 0)).alloc (mvB 6 A B Cc hh gg vv dv)) W) → Calls Tryz.prog 30 #[.pointer (some ⟨ps, 0, none⟩), .int .i64 hh] W fun e w' => e = .returned (.int .i64 hn) ∧ Hid (Below (w.heap.size + 1) ((w.setCell ⟨ps, 4, none⟩ (.int .i64 0)).alloc (mvB 6 A B Cc hh gg vv dv)) w') ∧ LimbS ps ph w.heap.size 6 A B Cc hh gg vv dv vH w') := hide (fun W hW => (H30 W (unhide hW)).mono fun e w' ⟨q1, q2⟩ => ⟨q1, hide (hOn W w' (unhide hW) q2.below), hL w' (hOn W w' (unhide hW) q2.below)⟩)
  have H33' : Hid (∀ W, Hid (Below (w.heap.size + 1) ((w.setCell ⟨ps, 4, none⟩ (.int .i64 0)).alloc (mvB 6 A B Cc hh gg vv dv)) W) → Calls Tryz.prog 33 #[.pointer (some ⟨ps, 0, none⟩), .int .i64 hn] W fun e w' => e = .returned (.int .i64 hv) ∧ Hid (Below (w.heap.size + 1) ((w.setCell ⟨ps, 4, none⟩ (.int .i64 0)).alloc (mvB 6 A B Cc hh gg vv dv)) w') ∧ LimbS ps ph w.heap.size 6 A B Cc hh gg vv dv vH w') := hide (fun W hW => (H33 W (unhide hW)).mono fun e w' ⟨q1, q2⟩ => ⟨q1, hide (hOn W w' (unhide hW) q2.below), hL w' (hOn W w' (unhide hW) q2.below)⟩)
  have H30g' : Hid (∀ W, Hid (Below (w.heap.size + 1) ((w.setCell ⟨ps, 4, none⟩ (.int .i64 0)).alloc (mvB 6 A B Cc hh gg vv dv)) W) → Calls Tryz.prog 30 #[.pointer (some ⟨ps, 0, none⟩), .int .i64 gg] W fun e w' => e = .returned (.int .i64 hg) ∧ Hid (Below (w.heap.size + 1) ((w.setCell ⟨ps, 4, none⟩ (.int .i64 0)).alloc (mvB 6 A B Cc hh gg vv dv)) w') ∧ LimbS ps ph w.heap.size 6 A B Cc hh gg vv dv vH w') := hide (fun W hW => (H30g W (unhide hW)).mono fun e w' ⟨q1, q2⟩ => ⟨q1, hide (hOn W w' (unhide hW) q2.below), hL w' (hOn W w' (unhide hW) q2.below)⟩)
  have H33g' : Hid (∀ W, Hid (Below (w.heap.size + 1) ((w.setCell ⟨ps, 4, none⟩ (.int .i64 0)).alloc (mvB 6 A B Cc hh gg vv dv)) W) → Calls Tryz.prog 33 #[.pointer (some ⟨ps, 0, none⟩), .int .i64 hg] W fun e w' => e = .returned (.int .i64 tn) ∧ Hid (Below (w.heap.size + 1) ((w.setCell ⟨ps, 4, none⟩ (.int .i64 0)).alloc (mvB 6 A B Cc hh gg vv dv)) w') ∧ LimbS ps ph w.heap.size 6 A B Cc hh gg vv dv vH w') := hide (fun W hW => (H33g W (unhide hW)).mono fun e w' ⟨q1, q2⟩ => ⟨q1, hide (hOn W w' (unhide hW) q2.below), hL w' (hOn W w' (unhide hW) q2.below)⟩)
  have HR' : Hid (∀ W, Hid (Below (w.heap.size + 1) ((w.setCell ⟨ps, 4, none⟩ (.int .i64 0)).alloc (mvB 6 A B Cc hh gg vv dv)) W) → R W) := hide (fun W hW => HR W (unhide hW))
  have hO0 : Hid (Below (w.heap.size + 1) ((w.setCell ⟨ps, 4, none⟩ (.int .i64 0)).alloc (mvB 6 A B Cc hh gg vv dv)) ((w.setCell ⟨ps, 4, none⟩ (.int .i64 0)).alloc (mvB 6 A B Cc hh gg vv dv))) := hide (Below.refl _ _)
  clear H30 hOn hL hb hb1 hz0 hsz L0 c0 c2 c4 f4 HR H33 H30g H33g
  unfold mvV
  unfold mvB at H30' hO0 a0 a1 H33' HR' H30g' H33g'
  go_enter Tryz.func12, Tryz.ntmps12
  go_wp2_with fail
  refine (unhide H30' _ hO0).mono ?_
  clear hO0 a0 a1
  rintro e w1 ⟨rfl, hO1, ⟨x0, x2, ⟨r0, r1, r2, r3, r4, r5, r6, r7⟩⟩⟩
  go_wp2_with fail
  refine (unhide H30g' _ hO1).mono ?_
  rintro e w2 ⟨rfl, hO2, ⟨x0, x2, ⟨r0, r1, r2, r3, r4, r5, r6, r7⟩⟩⟩
  go_wp2_with fail
  refine (unhide H33g' _ hO2).mono ?_
  rintro e w3 ⟨rfl, hO3, ⟨x0, x2, ⟨r0, r1, r2, r3, r4, r5, r6, r7⟩⟩⟩
  by_cases h1 : hv < 0
  · have t1 : decide (hv < 0) = true := decide_eq_true h1
    go_wp2_with fail
    refine (unhide H33' _ hO3).mono ?_
    rintro e w4 ⟨rfl, hO4, ⟨x0, x2, ⟨r0, r1, r2, r3, r4, r5, r6, r7⟩⟩⟩
    go_wp2_with fail
    go_ret
    exact ⟨rfl, unhide HR' _ hO4⟩
  · have t1 : decide (hv < 0) = false := decide_eq_false h1
    have t2 : decide (tn < 0) = true := decide_eq_true (by omega)
    go_wp2_with fail
    refine (unhide H33' _ hO3).mono ?_
    rintro e w4 ⟨rfl, hO4, ⟨x0, x2, ⟨r0, r1, r2, r3, r4, r5, r6, r7⟩⟩⟩
    go_wp2_with fail
    go_ret
    exact ⟨rfl, unhide HR' _ hO4⟩

theorem step_put {w : World} {ps ph : Nat} (A B Cc hh gg : Int) (vv : Nat) (dv vH : Value) (hod : dv.oneCell' = true) {hn : Int} (c0 : w.cell? ⟨ps, 0, none⟩ = some (.pointer (some ⟨ph, 0, none⟩))) (c2 : w.cell? ⟨ps, 2, none⟩ = some vH) (c4 : ∃ x, w.cell? ⟨ps, 4, none⟩ = some x) (f4 : w.frozen? ⟨ps, 4, none⟩ = false)
    (H30 : ∀ W, Below (w.heap.size + 1) ((w.setCell ⟨ps, 4, none⟩ (.int .i64 0)).alloc (mvB 6 A B Cc hh gg vv dv)) W → Calls Tryz.prog 30 #[.pointer (some ⟨ps, 0, none⟩), .int .i64 hh] W fun e w' => e = .returned (.int .i64 hn) ∧ Still W w')
    {hv : Int} (H33 : ∀ W, Below (w.heap.size + 1) ((w.setCell ⟨ps, 4, none⟩ (.int .i64 0)).alloc (mvB 6 A B Cc hh gg vv dv)) W → Calls Tryz.prog 33 #[.pointer (some ⟨ps, 0, none⟩), .int .i64 hn] W fun e w' => e = .returned (.int .i64 hv) ∧ Still W w' ) {hg tn : Int} (H30g : ∀ W, Below (w.heap.size + 1) ((w.setCell ⟨ps, 4, none⟩ (.int .i64 0)).alloc (mvB 6 A B Cc hh gg vv dv)) W → Calls Tryz.prog 30 #[.pointer (some ⟨ps, 0, none⟩), .int .i64 gg] W fun e w' => e = .returned (.int .i64 hg) ∧ Still W w') (H33g : ∀ W, Below (w.heap.size + 1) ((w.setCell ⟨ps, 4, none⟩ (.int .i64 0)).alloc (mvB 6 A B Cc hh gg vv dv)) W → Calls Tryz.prog 33 #[.pointer (some ⟨ps, 0, none⟩), .int .i64 hg] W fun e w' => e = .returned (.int .i64 tn) ∧ Still W w' ) {v : Nat} (H28g : ∀ W, Below (w.heap.size + 1) ((w.setCell ⟨ps, 4, none⟩ (.int .i64 0)).alloc (mvB 6 A B Cc hh gg vv dv)) W → Calls Tryz.prog 28 #[.pointer (some ⟨ph, 0, none⟩), .int .i64 hg] W fun e w' => e = .returned (.tuple #[.int .u64 (v : Nat), .int .i64 0]) ∧ Below W.heap.size W w' ) {m gH lh ch : Nat} {xH : Value} {G : World → Prop} (hvH : vH = .slice (some ⟨gH, 0, none⟩) lh ch) (hml : m < lh) (hlh : lh ≤ 1000000) (hhn : hn = (m : Nat) + 1) (cH : w.cell? ⟨gH, m, none⟩ = some xH) (fH : w.frozen? ⟨gH, m, none⟩ = false) (ngp : gH ≠ ps) (HC : ∀ W, Below (w.heap.size + 1) ((w.setCell ⟨ps, 4, none⟩ (.int .i64 0)).alloc (mvB 6 A B Cc hh gg vv dv)) W → Calls Tryz.prog 35 #[.pointer (some ⟨ph, 0, none⟩), .int .i64 hn, .int .u64 (v : Nat)] W fun e w' => e = .returned (.int .i64 0) ∧ w'.heap[ps]? = W.heap[ps]? ∧ w'.heap[w.heap.size]? = W.heap[w.heap.size]? ∧ w'.heap[gH]? = W.heap[gH]? ∧ G w' ) {R : World → Prop} (hneg : 0 ≤ hv) (hneg2 : 0 ≤ tn) (HR : ∀ w5, G w5 → ∀ W, Still (w5.setCell ⟨gH, m, none⟩ (.int .i64 tn)) W → R W) :
    Calls Tryz.prog 12 #[.pointer (some ⟨ps, 0, none⟩), mvV 6 A B Cc hh gg vv dv] w fun e w' => e = .returned (.bool true) ∧ R w' := by
  have hpl : ps < w.heap.size := block_lt_of_cell c0
  have hb : Below w.heap.size w (w.alloc (mvB 6 A B Cc hh gg vv dv)) := (Below.refl _ _).alloc (Nat.le_refl _) _
  have hz0 : (w.setCell ⟨ps, 4, none⟩ (.int .i64 0)).heap.size = w.heap.size := World.size_setCell _ _ _
  have hsz : ((w.setCell ⟨ps, 4, none⟩ (.int .i64 0)).alloc (mvB 6 A B Cc hh gg vv dv)).heap.size = w.heap.size + 1 := by simp
  have hb1 : Below w.heap.size (w.setCell ⟨ps, 4, none⟩ (.int .i64 0)) ((w.setCell ⟨ps, 4, none⟩ (.int .i64 0)).alloc (mvB 6 A B Cc hh gg vv dv)) := by rw [← hz0]; exact (Below.refl _ _).alloc (Nat.le_refl _) _
  have L0 : LimbS ps ph w.heap.size 6 A B Cc hh gg vv dv vH ((w.setCell ⟨ps, 4, none⟩ (.int .i64 0)).alloc (mvB 6 A B Cc hh gg vv dv)) := by
    refine ⟨?_, ?_, ?_⟩
    · rw [hb1.cell (p := ⟨ps, 0, none⟩) hpl, World.cell?_setCell_other _ _ _ _ (by simp)]; exact c0
    · rw [hb1.cell (p := ⟨ps, 2, none⟩) hpl, World.cell?_setCell_other _ _ _ _ (by simp)]; exact c2
    · have := Boxed.new (w.setCell ⟨ps, 4, none⟩ (.int .i64 0)) 6 A B Cc hh gg vv dv
      rw [hz0] at this
      exact this
  have hL : ∀ W, Below (w.heap.size + 1) ((w.setCell ⟨ps, 4, none⟩ (.int .i64 0)).alloc (mvB 6 A B Cc hh gg vv dv)) W → LimbS ps ph w.heap.size 6 A B Cc hh gg vv dv vH W := fun W k => L0.like (k.block ps (by omega)) (k.block w.heap.size (by omega))
  have hOn : ∀ W w', Below (w.heap.size + 1) ((w.setCell ⟨ps, 4, none⟩ (.int .i64 0)).alloc (mvB 6 A B Cc hh gg vv dv)) W → Below W.heap.size W w' → Below (w.heap.size + 1) ((w.setCell ⟨ps, 4, none⟩ (.int .i64 0)).alloc (mvB 6 A B Cc hh gg vv dv)) w' := fun W w' k q => k.trans (q.mono (by have := k.size; rw [hsz] at this; exact this))
  obtain ⟨x4, c4⟩ := c4
  have a0 := (hb.cell (p := ⟨ps, 4, none⟩) hpl).trans c4
  have a1 : (w.alloc (mvB 6 A B Cc hh gg vv dv)).frozen? ⟨ps, 4, none⟩ = false := by rw [← f4]; simp only [World.frozen?, hb.block ps hpl]
  have H30' : Hid (∀ W, Hid (Below (w.heap.size + 1) ((w.setCell ⟨ps, 4, none⟩ (.int .i64 0)).alloc (mvB 6 A B Cc hh gg vv dv)) W) → Calls Tryz.prog 30 #[.pointer (some ⟨ps, 0, none⟩), .int .i64 hh] W fun e w' => e = .returned (.int .i64 hn) ∧ Hid (Below (w.heap.size + 1) ((w.setCell ⟨ps, 4, none⟩ (.int .i64 0)).alloc (mvB 6 A B Cc hh gg vv dv)) w') ∧ LimbS ps ph w.heap.size 6 A B Cc hh gg vv dv vH w') := hide (fun W hW => (H30 W (unhide hW)).mono fun e w' ⟨q1, q2⟩ => ⟨q1, hide (hOn W w' (unhide hW) q2.below), hL w' (hOn W w' (unhide hW) q2.below)⟩)
  have H33' : Hid (∀ W, Hid (Below (w.heap.size + 1) ((w.setCell ⟨ps, 4, none⟩ (.int .i64 0)).alloc (mvB 6 A B Cc hh gg vv dv)) W) → Calls Tryz.prog 33 #[.pointer (some ⟨ps, 0, none⟩), .int .i64 hn] W fun e w' => e = .returned (.int .i64 hv) ∧ Hid (Below (w.heap.size + 1) ((w.setCell ⟨ps, 4, none⟩ (.int .i64 0)).alloc (mvB 6 A B Cc hh gg vv dv)) w') ∧ LimbS ps ph w.heap.size 6 A B Cc hh gg vv dv vH w') := hide (fun W hW => (H33 W (unhide hW)).mono fun e w' ⟨q1, q2⟩ => ⟨q1, hide (hOn W w' (unhide hW) q2.below), hL w' (hOn W w' (unhide hW) q2.below)⟩)
  have H30g' : Hid (∀ W, Hid (Below (w.heap.size + 1) ((w.setCell ⟨ps, 4, none⟩ (.int .i64 0)).alloc (mvB 6 A B Cc hh gg vv dv)) W) → Calls Tryz.prog 30 #[.pointer (some ⟨ps, 0, none⟩), .int .i64 gg] W fun e w' => e = .returned (.int .i64 hg) ∧ Hid (Below (w.heap.size + 1) ((w.setCell ⟨ps, 4, none⟩ (.int .i64 0)).alloc (mvB 6 A B Cc hh gg vv dv)) w') ∧ LimbS ps ph w.heap.size 6 A B Cc hh gg vv dv vH w') := hide (fun W hW => (H30g W (unhide hW)).mono fun e w' ⟨q1, q2⟩ => ⟨q1, hide (hOn W w' (unhide hW) q2.below), hL w' (hOn W w' (unhide hW) q2.below)⟩)
  have H33g' : Hid (∀ W, Hid (Below (w.heap.size + 1) ((w.setCell ⟨ps, 4, none⟩ (.int .i64 0)).alloc (mvB 6 A B Cc hh gg vv dv)) W) → Calls Tryz.prog 33 #[.pointer (some ⟨ps, 0, none⟩), .int .i64 hg] W fun e w' => e = .returned (.int .i64 tn) ∧ Hid (Below (w.heap.size + 1) ((w.setCell ⟨ps, 4, none⟩ (.int .i64 0)).alloc (mvB 6 A B Cc hh gg vv dv)) w') ∧ LimbS ps ph w.heap.size 6 A B Cc hh gg vv dv vH w') := hide (fun W hW => (H33g W (unhide hW)).mono fun e w' ⟨q1, q2⟩ => ⟨q1, hide (hOn W w' (unhide hW) q2.below), hL w' (hOn W w' (unhide hW) q2.below)⟩)
  have H28g' : Hid (∀ W, Hid (Below (w.heap.size + 1) ((w.setCell ⟨ps, 4, none⟩ (.int .i64 0)).alloc (mvB 6 A B Cc hh gg vv dv)) W) → Calls Tryz.prog 28 #[.pointer (some ⟨ph, 0, none⟩), .int .i64 hg] W fun e w' => e = .returned (.tuple #[.int .u64 (v : Nat), .int .i64 0]) ∧ Hid (Below (w.heap.size + 1) ((w.setCell ⟨ps, 4, none⟩ (.int .i64 0)).alloc (mvB 6 A B Cc hh gg vv dv)) w') ∧ LimbS ps ph w.heap.size 6 A B Cc hh gg vv dv vH w') := hide (fun W hW => (H28g W (unhide hW)).mono fun e w' ⟨q1, q2⟩ => ⟨q1, hide (hOn W w' (unhide hW) q2), hL w' (hOn W w' (unhide hW) q2)⟩)
  have hgl : gH < w.heap.size := block_lt_of_cell cH
  have HC' : Hid (∀ W, Hid (Below (w.heap.size + 1) ((w.setCell ⟨ps, 4, none⟩ (.int .i64 0)).alloc (mvB 6 A B Cc hh gg vv dv)) W) → Calls Tryz.prog 35 #[.pointer (some ⟨ph, 0, none⟩), .int .i64 hn, .int .u64 (v : Nat)] W fun e w' => e = .returned (.int .i64 0) ∧ LimbS ps ph w.heap.size 6 A B Cc hh gg vv dv vH w' ∧ w'.cell? ⟨gH, m, none⟩ = some xH ∧ w'.frozen? ⟨gH, m, none⟩ = false ∧ Hid (G w') ) := hide (fun W hW => (HC W (unhide hW)).mono fun e w' ⟨q1, q2, q3, q5, q4⟩ => by
    have hl := (hL W (unhide hW)).like q2 q3
    have e1 : w'.heap[gH]? = w.heap[gH]? := q5.trans (((unhide hW).block gH (by omega)).trans ((hb1.block gH hgl).trans (setCell_else _ _ _ _ _ ngp)))
    exact ⟨q1, hl, by rw [← cH]; simp only [World.cell?, e1], by rw [← fH]; simp only [World.frozen?, e1], hide q4⟩)
  have HR' := hide HR
  have ngb : gH ≠ w.heap.size := Nat.ne_of_lt hgl
  have HVH := hide hvH
  have HHN := hide hhn
  have hO0 : Hid (Below (w.heap.size + 1) ((w.setCell ⟨ps, 4, none⟩ (.int .i64 0)).alloc (mvB 6 A B Cc hh gg vv dv)) ((w.setCell ⟨ps, 4, none⟩ (.int .i64 0)).alloc (mvB 6 A B Cc hh gg vv dv))) := hide (Below.refl _ _)
  have t1 : decide (hv < 0) = false := decide_eq_false (by omega)
  have t2 : decide (tn < 0) = false := decide_eq_false (by omega)
  clear H30 hOn hL hb hb1 hz0 hsz L0 c0 c2 c4 f4 HR H33 H30g H33g H28g HC cH fH hvH hhn
  unfold mvV
  unfold mvB at H30' hO0 a0 a1 H33' HC' H30g' H33g' H28g'
  go_enter Tryz.func12, Tryz.ntmps12
  go_wp2_with fail
  refine (unhide H30' _ hO0).mono ?_
  clear hO0 a0 a1
  rintro e w1 ⟨rfl, hO1, ⟨x0, x2, ⟨r0, r1, r2, r3, r4, r5, r6, r7⟩⟩⟩
  generalize hB : w.heap.size = b at *
  go_wp2_with fail
  refine (unhide H30g' _ hO1).mono ?_
  rintro e w2 ⟨rfl, hO2, ⟨x0, x2, ⟨r0, r1, r2, r3, r4, r5, r6, r7⟩⟩⟩
  go_wp2_with fail
  refine (unhide H33g' _ hO2).mono ?_
  rintro e w3 ⟨rfl, hO3, ⟨x0, x2, ⟨r0, r1, r2, r3, r4, r5, r6, r7⟩⟩⟩
  go_wp2_with fail
  refine (unhide H33' _ hO3).mono ?_
  rintro e w4 ⟨rfl, hO4, ⟨x0, x2, ⟨r0, r1, r2, r3, r4, r5, r6, r7⟩⟩⟩
  go_wp2_with fail
  go_region_held3 (fun w' => w'.cell? ⟨ps, 0, none⟩ = some (.pointer (some ⟨ph, 0, none⟩)) ∧ w'.cell? ⟨b, 5, none⟩ = some (.int .i64 gg)) (go_keep) (first | (go_at_call 30; refine (unhide H30g' _ (hide (unhide hO4).drew)).mono ?_; rintro e w5 ⟨rfl, hO5, ⟨x0, x2, ⟨r0, r1, r2, r3, r4, r5, r6, r7⟩⟩⟩) | (go_at_call 28; refine (unhide H28g' _ hO5).mono ?_; rintro e w6 ⟨rfl, hO6, ⟨x0, x2, ⟨r0, r1, r2, r3, r4, r5, r6, r7⟩⟩⟩))
  go_wp2_with fail
  refine (unhide HC' _ hO6).mono ?_
  rintro e w7 ⟨rfl, ⟨x0, x2, ⟨r0, r1, r2, r3, r4, r5, r6, r7⟩⟩, u1, u2, hG⟩
  obtain rfl := unhide HVH
  obtain rfl := unhide HHN
  have su : IntKind.i64.wrap ((m : Int) + 1 - 1) = (m : Int) := by rw [show (m : Int) + 1 - 1 = (m : Int) by omega]; exact wrap_small _ (by omega) (by omega)
  have i3 : (0 : Int) ≤ (m : Nat) := by omega
  have i4 : (m : Int) < (lh : Nat) := by omega
  go_wp2_with fail
  (try go_region)
  all_goals go_wp2_with fail
  all_goals go_ret
  all_goals exact ⟨rfl, unhide HR' _ (unhide hG) _ (by first | exact Still.refl _ | exact (Still.refl _).drew _)⟩
end Go.Proofs.YtidfllgaeiopjaaGreat
namespace Go.Proofs.YtidfllgaeiopjaaGreat
open Go.ChangeShapes Go.WideShapes Go.ChangeAt Go.RowKit
set_option linter.unusedVariables false
set_option linter.unusedSimpArgs false
set_option maxRecDepth 100000
set_option maxHeartbeats 1000000

theorem step_drop0 {w : World} {ps ph : Nat} (A B Cc hh gg : Int) (vv : Nat) (dv vH : Value) (hod : dv.oneCell' = true) {hn : Int} (c0 : w.cell? ⟨ps, 0, none⟩ = some (.pointer (some ⟨ph, 0, none⟩))) (c2 : w.cell? ⟨ps, 2, none⟩ = some vH) (c4 : ∃ x, w.cell? ⟨ps, 4, none⟩ = some x) (f4 : w.frozen? ⟨ps, 4, none⟩ = false)
    (H30 : ∀ W, Below (w.heap.size + 1) ((w.setCell ⟨ps, 4, none⟩ (.int .i64 0)).alloc (mvB 5 A B Cc hh gg vv dv)) W → Calls Tryz.prog 30 #[.pointer (some ⟨ps, 0, none⟩), .int .i64 hh] W fun e w' => e = .returned (.int .i64 hn) ∧ Still W w')
    {hv : Int} (H33 : ∀ W, Below (w.heap.size + 1) ((w.setCell ⟨ps, 4, none⟩ (.int .i64 0)).alloc (mvB 5 A B Cc hh gg vv dv)) W → Calls Tryz.prog 33 #[.pointer (some ⟨ps, 0, none⟩), .int .i64 hn] W fun e w' => e = .returned (.int .i64 hv) ∧ Still W w' ) {R : World → Prop} (hneg : hv < 0) (HR : ∀ W, Below (w.heap.size + 1) ((w.setCell ⟨ps, 4, none⟩ (.int .i64 0)).alloc (mvB 5 A B Cc hh gg vv dv)) W → R W) :
    Calls Tryz.prog 12 #[.pointer (some ⟨ps, 0, none⟩), mvV 5 A B Cc hh gg vv dv] w fun e w' => e = .returned (.bool true) ∧ R w' := by
  have hpl : ps < w.heap.size := block_lt_of_cell c0
  have hb : Below w.heap.size w (w.alloc (mvB 5 A B Cc hh gg vv dv)) := (Below.refl _ _).alloc (Nat.le_refl _) _
  have hz0 : (w.setCell ⟨ps, 4, none⟩ (.int .i64 0)).heap.size = w.heap.size := World.size_setCell _ _ _
  have hsz : ((w.setCell ⟨ps, 4, none⟩ (.int .i64 0)).alloc (mvB 5 A B Cc hh gg vv dv)).heap.size = w.heap.size + 1 := by simp
  have hb1 : Below w.heap.size (w.setCell ⟨ps, 4, none⟩ (.int .i64 0)) ((w.setCell ⟨ps, 4, none⟩ (.int .i64 0)).alloc (mvB 5 A B Cc hh gg vv dv)) := by rw [← hz0]; exact (Below.refl _ _).alloc (Nat.le_refl _) _
  have L0 : LimbS ps ph w.heap.size 5 A B Cc hh gg vv dv vH ((w.setCell ⟨ps, 4, none⟩ (.int .i64 0)).alloc (mvB 5 A B Cc hh gg vv dv)) := by
    refine ⟨?_, ?_, ?_⟩
    · rw [hb1.cell (p := ⟨ps, 0, none⟩) hpl, World.cell?_setCell_other _ _ _ _ (by simp)]; exact c0
    · rw [hb1.cell (p := ⟨ps, 2, none⟩) hpl, World.cell?_setCell_other _ _ _ _ (by simp)]; exact c2
    · have := Boxed.new (w.setCell ⟨ps, 4, none⟩ (.int .i64 0)) 5 A B Cc hh gg vv dv
      rw [hz0] at this
      exact this
  have hL : ∀ W, Below (w.heap.size + 1) ((w.setCell ⟨ps, 4, none⟩ (.int .i64 0)).alloc (mvB 5 A B Cc hh gg vv dv)) W → LimbS ps ph w.heap.size 5 A B Cc hh gg vv dv vH W := fun W k => L0.like (k.block ps (by omega)) (k.block w.heap.size (by omega))
  have hOn : ∀ W w', Below (w.heap.size + 1) ((w.setCell ⟨ps, 4, none⟩ (.int .i64 0)).alloc (mvB 5 A B Cc hh gg vv dv)) W → Below W.heap.size W w' → Below (w.heap.size + 1) ((w.setCell ⟨ps, 4, none⟩ (.int .i64 0)).alloc (mvB 5 A B Cc hh gg vv dv)) w' := fun W w' k q => k.trans (q.mono (by have := k.size; rw [hsz] at this; exact this))
  obtain ⟨x4, c4⟩ := c4
  have a0 := (hb.cell (p := ⟨ps, 4, none⟩) hpl).trans c4
  have a1 : (w.alloc (mvB 5 A B Cc hh gg vv dv)).frozen? ⟨ps, 4, none⟩ = false := by rw [← f4]; simp only [World.frozen?, hb.block ps hpl]
  have H30' : Hid (∀ W, Hid (Below (w.heap.size + 1) ((w.setCell ⟨ps, 4, none⟩ (.int .i64 0)).alloc (mvB 5 A B Cc hh gg vv dv)) W) → Calls Tryz.prog 30 #[.pointer (some ⟨ps, 0, none⟩), .int .i64 hh] W fun e w' => e = .returned (.int .i64 hn) ∧ Hid (Below (w.heap.size + 1) ((w.setCell ⟨ps, 4, none⟩ (.int .i64 0)).alloc (mvB 5 A B Cc hh gg vv dv)) w') ∧ LimbS ps ph w.heap.size 5 A B Cc hh gg vv dv vH w') := hide (fun W hW => (H30 W (unhide hW)).mono fun e w' ⟨q1, q2⟩ => ⟨q1, hide (hOn W w' (unhide hW) q2.below), hL w' (hOn W w' (unhide hW) q2.below)⟩)
  have H33' : Hid (∀ W, Hid (Below (w.heap.size + 1) ((w.setCell ⟨ps, 4, none⟩ (.int .i64 0)).alloc (mvB 5 A B Cc hh gg vv dv)) W) → Calls Tryz.prog 33 #[.pointer (some ⟨ps, 0, none⟩), .int .i64 hn] W fun e w' => e = .returned (.int .i64 hv) ∧ Hid (Below (w.heap.size + 1) ((w.setCell ⟨ps, 4, none⟩ (.int .i64 0)).alloc (mvB 5 A B Cc hh gg vv dv)) w') ∧ LimbS ps ph w.heap.size 5 A B Cc hh gg vv dv vH w') := hide (fun W hW => (H33 W (unhide hW)).mono fun e w' ⟨q1, q2⟩ => ⟨q1, hide (hOn W w' (unhide hW) q2.below), hL w' (hOn W w' (unhide hW) q2.below)⟩)
  have HR' : Hid (∀ W, Hid (Below (w.heap.size + 1) ((w.setCell ⟨ps, 4, none⟩ (.int .i64 0)).alloc (mvB 5 A B Cc hh gg vv dv)) W) → R W) := hide (fun W hW => HR W (unhide hW))
  have hO0 : Hid (Below (w.heap.size + 1) ((w.setCell ⟨ps, 4, none⟩ (.int .i64 0)).alloc (mvB 5 A B Cc hh gg vv dv)) ((w.setCell ⟨ps, 4, none⟩ (.int .i64 0)).alloc (mvB 5 A B Cc hh gg vv dv))) := hide (Below.refl _ _)
  have t1 : decide (hv < 0) = true := decide_eq_true hneg
  clear H30 hOn hL hb hb1 hz0 hsz L0 c0 c2 c4 f4 HR H33
  unfold mvV
  unfold mvB at H30' hO0 a0 a1 H33' HR'
  go_enter Tryz.func12, Tryz.ntmps12
  go_wp2_with fail
  refine (unhide H30' _ hO0).mono ?_
  clear hO0 a0 a1
  rintro e w1 ⟨rfl, hO1, ⟨x0, x2, ⟨r0, r1, r2, r3, r4, r5, r6, r7⟩⟩⟩
  go_wp2_with fail
  refine (unhide H33' _ hO1).mono ?_
  rintro e w2 ⟨rfl, hO2, ⟨x0, x2, ⟨r0, r1, r2, r3, r4, r5, r6, r7⟩⟩⟩
  go_wp2_with fail
  go_ret
  exact ⟨rfl, unhide HR' _ hO2⟩

theorem step_drop {w : World} {ps ph : Nat} (A B Cc hh gg : Int) (vv : Nat) (dv vH : Value) (hod : dv.oneCell' = true) {hn : Int} (c0 : w.cell? ⟨ps, 0, none⟩ = some (.pointer (some ⟨ph, 0, none⟩))) (c2 : w.cell? ⟨ps, 2, none⟩ = some vH) (c4 : ∃ x, w.cell? ⟨ps, 4, none⟩ = some x) (f4 : w.frozen? ⟨ps, 4, none⟩ = false)
    (H30 : ∀ W, Below (w.heap.size + 1) ((w.setCell ⟨ps, 4, none⟩ (.int .i64 0)).alloc (mvB 5 A B Cc hh gg vv dv)) W → Calls Tryz.prog 30 #[.pointer (some ⟨ps, 0, none⟩), .int .i64 hh] W fun e w' => e = .returned (.int .i64 hn) ∧ Still W w')
    {hv : Int} (H33 : ∀ W, Below (w.heap.size + 1) ((w.setCell ⟨ps, 4, none⟩ (.int .i64 0)).alloc (mvB 5 A B Cc hh gg vv dv)) W → Calls Tryz.prog 33 #[.pointer (some ⟨ps, 0, none⟩), .int .i64 hn] W fun e w' => e = .returned (.int .i64 hv) ∧ Still W w' ) {m gH lh ch : Nat} {xH : Value} {G : World → Prop} (hvH : vH = .slice (some ⟨gH, 0, none⟩) lh ch) (hml : m < lh) (hlh : lh ≤ 1000000) (hhn : hn = (m : Nat) + 1) (cH : w.cell? ⟨gH, m, none⟩ = some xH) (fH : w.frozen? ⟨gH, m, none⟩ = false) (ngp : gH ≠ ps) (HC : ∀ W, Below (w.heap.size + 1) ((w.setCell ⟨ps, 4, none⟩ (.int .i64 0)).alloc (mvB 5 A B Cc hh gg vv dv)) W → Calls Tryz.prog 34 #[.pointer (some ⟨ph, 0, none⟩), .int .i64 hn] W fun e w' => e = .returned (.int .i64 0) ∧ w'.heap[ps]? = W.heap[ps]? ∧ w'.heap[w.heap.size]? = W.heap[w.heap.size]? ∧ w'.heap[gH]? = W.heap[gH]? ∧ G w' ) {R : World → Prop} (hneg : 0 ≤ hv) (HR : ∀ w5, G w5 → ∀ W, Still (w5.setCell ⟨gH, m, none⟩ (.int .i64 (-1))) W → R W) :
    Calls Tryz.prog 12 #[.pointer (some ⟨ps, 0, none⟩), mvV 5 A B Cc hh gg vv dv] w fun e w' => e = .returned (.bool true) ∧ R w' := by
  have hpl : ps < w.heap.size := block_lt_of_cell c0
  have hb : Below w.heap.size w (w.alloc (mvB 5 A B Cc hh gg vv dv)) := (Below.refl _ _).alloc (Nat.le_refl _) _
  have hz0 : (w.setCell ⟨ps, 4, none⟩ (.int .i64 0)).heap.size = w.heap.size := World.size_setCell _ _ _
  have hsz : ((w.setCell ⟨ps, 4, none⟩ (.int .i64 0)).alloc (mvB 5 A B Cc hh gg vv dv)).heap.size = w.heap.size + 1 := by simp
  have hb1 : Below w.heap.size (w.setCell ⟨ps, 4, none⟩ (.int .i64 0)) ((w.setCell ⟨ps, 4, none⟩ (.int .i64 0)).alloc (mvB 5 A B Cc hh gg vv dv)) := by rw [← hz0]; exact (Below.refl _ _).alloc (Nat.le_refl _) _
  have L0 : LimbS ps ph w.heap.size 5 A B Cc hh gg vv dv vH ((w.setCell ⟨ps, 4, none⟩ (.int .i64 0)).alloc (mvB 5 A B Cc hh gg vv dv)) := by
    refine ⟨?_, ?_, ?_⟩
    · rw [hb1.cell (p := ⟨ps, 0, none⟩) hpl, World.cell?_setCell_other _ _ _ _ (by simp)]; exact c0
    · rw [hb1.cell (p := ⟨ps, 2, none⟩) hpl, World.cell?_setCell_other _ _ _ _ (by simp)]; exact c2
    · have := Boxed.new (w.setCell ⟨ps, 4, none⟩ (.int .i64 0)) 5 A B Cc hh gg vv dv
      rw [hz0] at this
      exact this
  have hL : ∀ W, Below (w.heap.size + 1) ((w.setCell ⟨ps, 4, none⟩ (.int .i64 0)).alloc (mvB 5 A B Cc hh gg vv dv)) W → LimbS ps ph w.heap.size 5 A B Cc hh gg vv dv vH W := fun W k => L0.like (k.block ps (by omega)) (k.block w.heap.size (by omega))
  have hOn : ∀ W w', Below (w.heap.size + 1) ((w.setCell ⟨ps, 4, none⟩ (.int .i64 0)).alloc (mvB 5 A B Cc hh gg vv dv)) W → Below W.heap.size W w' → Below (w.heap.size + 1) ((w.setCell ⟨ps, 4, none⟩ (.int .i64 0)).alloc (mvB 5 A B Cc hh gg vv dv)) w' := fun W w' k q => k.trans (q.mono (by have := k.size; rw [hsz] at this; exact this))
  obtain ⟨x4, c4⟩ := c4
  have a0 := (hb.cell (p := ⟨ps, 4, none⟩) hpl).trans c4
  have a1 : (w.alloc (mvB 5 A B Cc hh gg vv dv)).frozen? ⟨ps, 4, none⟩ = false := by rw [← f4]; simp only [World.frozen?, hb.block ps hpl]
  have H30' : Hid (∀ W, Hid (Below (w.heap.size + 1) ((w.setCell ⟨ps, 4, none⟩ (.int .i64 0)).alloc (mvB 5 A B Cc hh gg vv dv)) W) → Calls Tryz.prog 30 #[.pointer (some ⟨ps, 0, none⟩), .int .i64 hh] W fun e w' => e = .returned (.int .i64 hn) ∧ Hid (Below (w.heap.size + 1) ((w.setCell ⟨ps, 4, none⟩ (.int .i64 0)).alloc (mvB 5 A B Cc hh gg vv dv)) w') ∧ LimbS ps ph w.heap.size 5 A B Cc hh gg vv dv vH w') := hide (fun W hW => (H30 W (unhide hW)).mono fun e w' ⟨q1, q2⟩ => ⟨q1, hide (hOn W w' (unhide hW) q2.below), hL w' (hOn W w' (unhide hW) q2.below)⟩)
  have H33' : Hid (∀ W, Hid (Below (w.heap.size + 1) ((w.setCell ⟨ps, 4, none⟩ (.int .i64 0)).alloc (mvB 5 A B Cc hh gg vv dv)) W) → Calls Tryz.prog 33 #[.pointer (some ⟨ps, 0, none⟩), .int .i64 hn] W fun e w' => e = .returned (.int .i64 hv) ∧ Hid (Below (w.heap.size + 1) ((w.setCell ⟨ps, 4, none⟩ (.int .i64 0)).alloc (mvB 5 A B Cc hh gg vv dv)) w') ∧ LimbS ps ph w.heap.size 5 A B Cc hh gg vv dv vH w') := hide (fun W hW => (H33 W (unhide hW)).mono fun e w' ⟨q1, q2⟩ => ⟨q1, hide (hOn W w' (unhide hW) q2.below), hL w' (hOn W w' (unhide hW) q2.below)⟩)
  have hgl : gH < w.heap.size := block_lt_of_cell cH
  have HC' : Hid (∀ W, Hid (Below (w.heap.size + 1) ((w.setCell ⟨ps, 4, none⟩ (.int .i64 0)).alloc (mvB 5 A B Cc hh gg vv dv)) W) → Calls Tryz.prog 34 #[.pointer (some ⟨ph, 0, none⟩), .int .i64 hn] W fun e w' => e = .returned (.int .i64 0) ∧ LimbS ps ph w.heap.size 5 A B Cc hh gg vv dv vH w' ∧ w'.cell? ⟨gH, m, none⟩ = some xH ∧ w'.frozen? ⟨gH, m, none⟩ = false ∧ Hid (G w') ) := hide (fun W hW => (HC W (unhide hW)).mono fun e w' ⟨q1, q2, q3, q5, q4⟩ => by
    have hl := (hL W (unhide hW)).like q2 q3
    have e1 : w'.heap[gH]? = w.heap[gH]? := q5.trans (((unhide hW).block gH (by omega)).trans ((hb1.block gH hgl).trans (setCell_else _ _ _ _ _ ngp)))
    exact ⟨q1, hl, by rw [← cH]; simp only [World.cell?, e1], by rw [← fH]; simp only [World.frozen?, e1], hide q4⟩)
  have HR' := hide HR
  have ngb : gH ≠ w.heap.size := Nat.ne_of_lt hgl
  have HVH := hide hvH
  have HHN := hide hhn
  have hO0 : Hid (Below (w.heap.size + 1) ((w.setCell ⟨ps, 4, none⟩ (.int .i64 0)).alloc (mvB 5 A B Cc hh gg vv dv)) ((w.setCell ⟨ps, 4, none⟩ (.int .i64 0)).alloc (mvB 5 A B Cc hh gg vv dv))) := hide (Below.refl _ _)
  have t1 : decide (hv < 0) = false := decide_eq_false (by omega)
  clear H30 hOn hL hb hb1 hz0 hsz L0 c0 c2 c4 f4 HR H33 HC cH fH hvH hhn
  unfold mvV
  unfold mvB at H30' hO0 a0 a1 H33' HC'
  go_enter Tryz.func12, Tryz.ntmps12
  go_wp2_with fail
  refine (unhide H30' _ hO0).mono ?_
  clear hO0 a0 a1
  rintro e w1 ⟨rfl, hO1, ⟨x0, x2, ⟨r0, r1, r2, r3, r4, r5, r6, r7⟩⟩⟩
  go_wp2_with fail
  refine (unhide H33' _ hO1).mono ?_
  rintro e w2 ⟨rfl, hO2, ⟨x0, x2, ⟨r0, r1, r2, r3, r4, r5, r6, r7⟩⟩⟩
  go_wp2_with fail
  refine (unhide HC' _ hO2).mono ?_
  rintro e w3 ⟨rfl, ⟨x0, x2, ⟨r0, r1, r2, r3, r4, r5, r6, r7⟩⟩, u1, u2, hG⟩
  obtain rfl := unhide HVH
  obtain rfl := unhide HHN
  have su : IntKind.i64.wrap ((m : Int) + 1 - 1) = (m : Int) := by rw [show (m : Int) + 1 - 1 = (m : Int) by omega]; exact wrap_small _ (by omega) (by omega)
  have i3 : (0 : Int) ≤ (m : Nat) := by omega
  have i4 : (m : Int) < (lh : Nat) := by omega
  go_wp2_with fail
  (try go_region)
  all_goals go_wp2_with fail
  all_goals go_ret
  all_goals exact ⟨rfl, unhide HR' _ (unhide hG) _ (by first | exact Still.refl _ | exact (Still.refl _).drew _)⟩
end Go.Proofs.YtidfllgaeiopjaaGreat
namespace Go.Proofs.YtidfllgaeiopjaaGreat
open Go.ChangeShapes Go.WideShapes Go.ChangeAt Go.RowKit
set_option linter.unusedVariables false
set_option linter.unusedSimpArgs false
set_option maxRecDepth 100000
set_option maxHeartbeats 1000000

theorem step_collect {w : World} {ps ph : Nat} (A B Cc hh gg : Int) (vv : Nat) (dv vH : Value) (hod : dv.oneCell' = true) {hn : Int} (c0 : w.cell? ⟨ps, 0, none⟩ = some (.pointer (some ⟨ph, 0, none⟩))) (c2 : w.cell? ⟨ps, 2, none⟩ = some vH) (c4 : ∃ x, w.cell? ⟨ps, 4, none⟩ = some x) (f4 : w.frozen? ⟨ps, 4, none⟩ = false)
    (H30 : ∀ W, Below (w.heap.size + 1) ((w.setCell ⟨ps, 4, none⟩ (.int .i64 0)).alloc (mvB 8 A B Cc hh gg vv dv)) W → Calls Tryz.prog 30 #[.pointer (some ⟨ps, 0, none⟩), .int .i64 hh] W fun e w' => e = .returned (.int .i64 hn) ∧ Still W w')
     {R : World → Prop} (HC : ∀ W, Below (w.heap.size + 1) ((w.setCell ⟨ps, 4, none⟩ (.int .i64 0)).alloc (mvB 8 A B Cc hh gg vv dv)) W → Calls Tryz.prog 14 #[.pointer (some ⟨ph, 0, none⟩)] W fun e w' => e = .returned (.tuple #[]) ∧ R w' ) :
    Calls Tryz.prog 12 #[.pointer (some ⟨ps, 0, none⟩), mvV 8 A B Cc hh gg vv dv] w fun e w' => e = .returned (.bool true) ∧ R w' := by
  have hpl : ps < w.heap.size := block_lt_of_cell c0
  have hb : Below w.heap.size w (w.alloc (mvB 8 A B Cc hh gg vv dv)) := (Below.refl _ _).alloc (Nat.le_refl _) _
  have hz0 : (w.setCell ⟨ps, 4, none⟩ (.int .i64 0)).heap.size = w.heap.size := World.size_setCell _ _ _
  have hsz : ((w.setCell ⟨ps, 4, none⟩ (.int .i64 0)).alloc (mvB 8 A B Cc hh gg vv dv)).heap.size = w.heap.size + 1 := by simp
  have hb1 : Below w.heap.size (w.setCell ⟨ps, 4, none⟩ (.int .i64 0)) ((w.setCell ⟨ps, 4, none⟩ (.int .i64 0)).alloc (mvB 8 A B Cc hh gg vv dv)) := by rw [← hz0]; exact (Below.refl _ _).alloc (Nat.le_refl _) _
  have L0 : LimbS ps ph w.heap.size 8 A B Cc hh gg vv dv vH ((w.setCell ⟨ps, 4, none⟩ (.int .i64 0)).alloc (mvB 8 A B Cc hh gg vv dv)) := by
    refine ⟨?_, ?_, ?_⟩
    · rw [hb1.cell (p := ⟨ps, 0, none⟩) hpl, World.cell?_setCell_other _ _ _ _ (by simp)]; exact c0
    · rw [hb1.cell (p := ⟨ps, 2, none⟩) hpl, World.cell?_setCell_other _ _ _ _ (by simp)]; exact c2
    · have := Boxed.new (w.setCell ⟨ps, 4, none⟩ (.int .i64 0)) 8 A B Cc hh gg vv dv
      rw [hz0] at this
      exact this
  have hL : ∀ W, Below (w.heap.size + 1) ((w.setCell ⟨ps, 4, none⟩ (.int .i64 0)).alloc (mvB 8 A B Cc hh gg vv dv)) W → LimbS ps ph w.heap.size 8 A B Cc hh gg vv dv vH W := fun W k => L0.like (k.block ps (by omega)) (k.block w.heap.size (by omega))
  have hOn : ∀ W w', Below (w.heap.size + 1) ((w.setCell ⟨ps, 4, none⟩ (.int .i64 0)).alloc (mvB 8 A B Cc hh gg vv dv)) W → Below W.heap.size W w' → Below (w.heap.size + 1) ((w.setCell ⟨ps, 4, none⟩ (.int .i64 0)).alloc (mvB 8 A B Cc hh gg vv dv)) w' := fun W w' k q => k.trans (q.mono (by have := k.size; rw [hsz] at this; exact this))
  obtain ⟨x4, c4⟩ := c4
  have a0 := (hb.cell (p := ⟨ps, 4, none⟩) hpl).trans c4
  have a1 : (w.alloc (mvB 8 A B Cc hh gg vv dv)).frozen? ⟨ps, 4, none⟩ = false := by rw [← f4]; simp only [World.frozen?, hb.block ps hpl]
  have H30' : Hid (∀ W, Hid (Below (w.heap.size + 1) ((w.setCell ⟨ps, 4, none⟩ (.int .i64 0)).alloc (mvB 8 A B Cc hh gg vv dv)) W) → Calls Tryz.prog 30 #[.pointer (some ⟨ps, 0, none⟩), .int .i64 hh] W fun e w' => e = .returned (.int .i64 hn) ∧ Hid (Below (w.heap.size + 1) ((w.setCell ⟨ps, 4, none⟩ (.int .i64 0)).alloc (mvB 8 A B Cc hh gg vv dv)) w') ∧ LimbS ps ph w.heap.size 8 A B Cc hh gg vv dv vH w') := hide (fun W hW => (H30 W (unhide hW)).mono fun e w' ⟨q1, q2⟩ => ⟨q1, hide (hOn W w' (unhide hW) q2.below), hL w' (hOn W w' (unhide hW) q2.below)⟩)
  have HC' : Hid (∀ W, Hid (Below (w.heap.size + 1) ((w.setCell ⟨ps, 4, none⟩ (.int .i64 0)).alloc (mvB 8 A B Cc hh gg vv dv)) W) → Calls Tryz.prog 14 #[.pointer (some ⟨ph, 0, none⟩)] W fun e w' => e = .returned (.tuple #[]) ∧ R w' ) := hide (fun W hW => HC W (unhide hW))
  have hO0 : Hid (Below (w.heap.size + 1) ((w.setCell ⟨ps, 4, none⟩ (.int .i64 0)).alloc (mvB 8 A B Cc hh gg vv dv)) ((w.setCell ⟨ps, 4, none⟩ (.int .i64 0)).alloc (mvB 8 A B Cc hh gg vv dv))) := hide (Below.refl _ _)
  clear H30 hOn hL hb hb1 hz0 hsz L0 c0 c2 c4 f4 HC
  unfold mvV
  unfold mvB at H30' hO0 a0 a1 HC'
  go_enter Tryz.func12, Tryz.ntmps12
  go_wp2_with fail
  refine (unhide H30' _ hO0).mono ?_
  clear hO0 a0 a1
  rintro e w1 ⟨rfl, hO1, ⟨x0, x2, ⟨r0, r1, r2, r3, r4, r5, r6, r7⟩⟩⟩
  go_wp2_with fail
  refine (unhide HC' _ hO1).mono ?_
  rintro e w2 ⟨rfl, hR⟩
  go_wp2_with fail
  go_ret
  exact ⟨rfl, hR⟩

theorem step_resize {w : World} {ps ph : Nat} (A B Cc hh gg : Int) (vv : Nat) (dv vH : Value) (hod : dv.oneCell' = true) {hn : Int} (c0 : w.cell? ⟨ps, 0, none⟩ = some (.pointer (some ⟨ph, 0, none⟩))) (c2 : w.cell? ⟨ps, 2, none⟩ = some vH) (c4 : ∃ x, w.cell? ⟨ps, 4, none⟩ = some x) (f4 : w.frozen? ⟨ps, 4, none⟩ = false)
    (H30 : ∀ W, Below (w.heap.size + 1) ((w.setCell ⟨ps, 4, none⟩ (.int .i64 0)).alloc (mvB 9 A B Cc hh gg vv dv)) W → Calls Tryz.prog 30 #[.pointer (some ⟨ps, 0, none⟩), .int .i64 hh] W fun e w' => e = .returned (.int .i64 hn) ∧ Still W w')
    {G : Nat → World → Prop} {R : World → Prop} (HC : ∀ W, Below (w.heap.size + 1) ((w.setCell ⟨ps, 4, none⟩ (.int .i64 0)).alloc (mvB 9 A B Cc hh gg vv dv)) W → Calls Tryz.prog 18 #[.pointer (some ⟨ph, 0, none⟩), .int .i64 A] W fun e w' => ∃ c : Nat, e = .returned (.int .i64 (c : Nat)) ∧ w'.heap[ps]? = W.heap[ps]? ∧ w'.heap[w.heap.size]? = W.heap[w.heap.size]? ∧ G c w' ) (HR : ∀ c w5, G c w5 → ∀ W, Still (w5.setCell ⟨ps, 4, none⟩ (.int .i64 (c : Nat))) W → R W) :
    Calls Tryz.prog 12 #[.pointer (some ⟨ps, 0, none⟩), mvV 9 A B Cc hh gg vv dv] w fun e w' => e = .returned (.bool true) ∧ R w' := by
  have hpl : ps < w.heap.size := block_lt_of_cell c0
  have hb : Below w.heap.size w (w.alloc (mvB 9 A B Cc hh gg vv dv)) := (Below.refl _ _).alloc (Nat.le_refl _) _
  have hz0 : (w.setCell ⟨ps, 4, none⟩ (.int .i64 0)).heap.size = w.heap.size := World.size_setCell _ _ _
  have hsz : ((w.setCell ⟨ps, 4, none⟩ (.int .i64 0)).alloc (mvB 9 A B Cc hh gg vv dv)).heap.size = w.heap.size + 1 := by simp
  have hb1 : Below w.heap.size (w.setCell ⟨ps, 4, none⟩ (.int .i64 0)) ((w.setCell ⟨ps, 4, none⟩ (.int .i64 0)).alloc (mvB 9 A B Cc hh gg vv dv)) := by rw [← hz0]; exact (Below.refl _ _).alloc (Nat.le_refl _) _
  have L0 : LimbS ps ph w.heap.size 9 A B Cc hh gg vv dv vH ((w.setCell ⟨ps, 4, none⟩ (.int .i64 0)).alloc (mvB 9 A B Cc hh gg vv dv)) := by
    refine ⟨?_, ?_, ?_⟩
    · rw [hb1.cell (p := ⟨ps, 0, none⟩) hpl, World.cell?_setCell_other _ _ _ _ (by simp)]; exact c0
    · rw [hb1.cell (p := ⟨ps, 2, none⟩) hpl, World.cell?_setCell_other _ _ _ _ (by simp)]; exact c2
    · have := Boxed.new (w.setCell ⟨ps, 4, none⟩ (.int .i64 0)) 9 A B Cc hh gg vv dv
      rw [hz0] at this
      exact this
  have hL : ∀ W, Below (w.heap.size + 1) ((w.setCell ⟨ps, 4, none⟩ (.int .i64 0)).alloc (mvB 9 A B Cc hh gg vv dv)) W → LimbS ps ph w.heap.size 9 A B Cc hh gg vv dv vH W := fun W k => L0.like (k.block ps (by omega)) (k.block w.heap.size (by omega))
  have hOn : ∀ W w', Below (w.heap.size + 1) ((w.setCell ⟨ps, 4, none⟩ (.int .i64 0)).alloc (mvB 9 A B Cc hh gg vv dv)) W → Below W.heap.size W w' → Below (w.heap.size + 1) ((w.setCell ⟨ps, 4, none⟩ (.int .i64 0)).alloc (mvB 9 A B Cc hh gg vv dv)) w' := fun W w' k q => k.trans (q.mono (by have := k.size; rw [hsz] at this; exact this))
  obtain ⟨x4, c4⟩ := c4
  have a0 := (hb.cell (p := ⟨ps, 4, none⟩) hpl).trans c4
  have a1 : (w.alloc (mvB 9 A B Cc hh gg vv dv)).frozen? ⟨ps, 4, none⟩ = false := by rw [← f4]; simp only [World.frozen?, hb.block ps hpl]
  have H30' : Hid (∀ W, Hid (Below (w.heap.size + 1) ((w.setCell ⟨ps, 4, none⟩ (.int .i64 0)).alloc (mvB 9 A B Cc hh gg vv dv)) W) → Calls Tryz.prog 30 #[.pointer (some ⟨ps, 0, none⟩), .int .i64 hh] W fun e w' => e = .returned (.int .i64 hn) ∧ Hid (Below (w.heap.size + 1) ((w.setCell ⟨ps, 4, none⟩ (.int .i64 0)).alloc (mvB 9 A B Cc hh gg vv dv)) w') ∧ LimbS ps ph w.heap.size 9 A B Cc hh gg vv dv vH w') := hide (fun W hW => (H30 W (unhide hW)).mono fun e w' ⟨q1, q2⟩ => ⟨q1, hide (hOn W w' (unhide hW) q2.below), hL w' (hOn W w' (unhide hW) q2.below)⟩)
  have L4 : ((w.setCell ⟨ps, 4, none⟩ (.int .i64 0)).alloc (mvB 9 A B Cc hh gg vv dv)).cell? ⟨ps, 4, none⟩ = some (.int .i64 0) := (hb1.cell (p := ⟨ps, 4, none⟩) hpl).trans (World.cell?_setCell_same' _ _ _ (by rw [c4]; rfl))
  have F4 : ((w.setCell ⟨ps, 4, none⟩ (.int .i64 0)).alloc (mvB 9 A B Cc hh gg vv dv)).frozen? ⟨ps, 4, none⟩ = false := by
    have e : ((w.setCell ⟨ps, 4, none⟩ (.int .i64 0)).alloc (mvB 9 A B Cc hh gg vv dv)).frozen? ⟨ps, 4, none⟩ = (w.setCell ⟨ps, 4, none⟩ (.int .i64 0)).frozen? ⟨ps, 4, none⟩ := by simp only [World.frozen?, hb1.block ps hpl]
    rw [e, World.frozen?_setCell]; exact f4
  have HC' : Hid (∀ W, Hid (Below (w.heap.size + 1) ((w.setCell ⟨ps, 4, none⟩ (.int .i64 0)).alloc (mvB 9 A B Cc hh gg vv dv)) W) → Calls Tryz.prog 18 #[.pointer (some ⟨ph, 0, none⟩), .int .i64 A] W fun e w' => ∃ c : Nat, e = .returned (.int .i64 (c : Nat)) ∧ w'.cell? ⟨ps, 0, none⟩ = some (.pointer (some ⟨ph, 0, none⟩)) ∧ w'.cell? ⟨w.heap.size, 1, none⟩ = some (.int .i64 A) ∧ w'.cell? ⟨ps, 4, none⟩ = some (.int .i64 0) ∧ w'.frozen? ⟨ps, 4, none⟩ = false ∧ Hid (G c w') ) := hide (fun W hW => (HC W (unhide hW)).mono fun e w' ⟨c, q1, q2, q3, q4⟩ => by
    have hl := (hL W (unhide hW)).like q2 q3
    have e4 : w'.heap[ps]? = ((w.setCell ⟨ps, 4, none⟩ (.int .i64 0)).alloc (mvB 9 A B Cc hh gg vv dv)).heap[ps]? := q2.trans ((unhide hW).block ps (by omega))
    exact ⟨c, q1, hl.c0, hl.bx.m1, by rw [← L4]; simp only [World.cell?, e4], by rw [← F4]; simp only [World.frozen?, e4], hide q4⟩)
  have HR' := hide HR
  have hO0 : Hid (Below (w.heap.size + 1) ((w.setCell ⟨ps, 4, none⟩ (.int .i64 0)).alloc (mvB 9 A B Cc hh gg vv dv)) ((w.setCell ⟨ps, 4, none⟩ (.int .i64 0)).alloc (mvB 9 A B Cc hh gg vv dv))) := hide (Below.refl _ _)
  clear H30 hOn hL hb hb1 hz0 hsz L0 c0 c2 c4 f4 HC HR L4 F4
  unfold mvV
  unfold mvB at H30' hO0 a0 a1 HC'
  go_enter Tryz.func12, Tryz.ntmps12
  go_wp2_with fail
  refine (unhide H30' _ hO0).mono ?_
  clear hO0 a0 a1
  rintro e w1 ⟨rfl, hO1, ⟨x0, x2, ⟨r0, r1, r2, r3, r4, r5, r6, r7⟩⟩⟩
  generalize hB : w.heap.size = b at *
  go_wp2_with fail
  go_region_held3 (fun w' => w'.cell? ⟨ps, 0, none⟩ = some (.pointer (some ⟨ph, 0, none⟩)) ∧ w'.cell? ⟨b, 1, none⟩ = some (.int .i64 A)) (first | (exact ⟨(World.cell?_setCell_other _ _ _ _ (by simp)).trans y0, (World.cell?_setCell_other _ _ _ _ (by simp)).trans y1⟩) | go_keep) (first | (go_at_call 18; refine (unhide HC' _ (hide (unhide hO1).drew)).mono ?_; rintro e w2 ⟨c, rfl, y0, y1, y4, yf, hG⟩))
  go_wp2_with fail
  go_ret
  exact ⟨rfl, unhide HR' c _ (unhide hG) _ (Still.refl _)⟩

theorem step_other {w : World} {ps ph : Nat} (dd A B Cc hh gg : Int) (vv : Nat) (dv vH : Value) (hod : dv.oneCell' = true) {hn : Int} (c0 : w.cell? ⟨ps, 0, none⟩ = some (.pointer (some ⟨ph, 0, none⟩))) (c2 : w.cell? ⟨ps, 2, none⟩ = some vH) (c4 : ∃ x, w.cell? ⟨ps, 4, none⟩ = some x) (f4 : w.frozen? ⟨ps, 4, none⟩ = false)
    (H30 : ∀ W, Below (w.heap.size + 1) ((w.setCell ⟨ps, 4, none⟩ (.int .i64 0)).alloc (mvB dd A B Cc hh gg vv dv)) W → Calls Tryz.prog 30 #[.pointer (some ⟨ps, 0, none⟩), .int .i64 hh] W fun e w' => e = .returned (.int .i64 hn) ∧ Still W w')
     {R : World → Prop} (hdo : dd < 1 ∨ 9 < dd) (HR : ∀ W, Below (w.heap.size + 1) ((w.setCell ⟨ps, 4, none⟩ (.int .i64 0)).alloc (mvB dd A B Cc hh gg vv dv)) W → R W) :
    Calls Tryz.prog 12 #[.pointer (some ⟨ps, 0, none⟩), mvV dd A B Cc hh gg vv dv] w fun e w' => e = .returned (.bool true) ∧ R w' := by
  have hpl : ps < w.heap.size := block_lt_of_cell c0
  have hb : Below w.heap.size w (w.alloc (mvB dd A B Cc hh gg vv dv)) := (Below.refl _ _).alloc (Nat.le_refl _) _
  have hz0 : (w.setCell ⟨ps, 4, none⟩ (.int .i64 0)).heap.size = w.heap.size := World.size_setCell _ _ _
  have hsz : ((w.setCell ⟨ps, 4, none⟩ (.int .i64 0)).alloc (mvB dd A B Cc hh gg vv dv)).heap.size = w.heap.size + 1 := by simp
  have hb1 : Below w.heap.size (w.setCell ⟨ps, 4, none⟩ (.int .i64 0)) ((w.setCell ⟨ps, 4, none⟩ (.int .i64 0)).alloc (mvB dd A B Cc hh gg vv dv)) := by rw [← hz0]; exact (Below.refl _ _).alloc (Nat.le_refl _) _
  have L0 : LimbS ps ph w.heap.size dd A B Cc hh gg vv dv vH ((w.setCell ⟨ps, 4, none⟩ (.int .i64 0)).alloc (mvB dd A B Cc hh gg vv dv)) := by
    refine ⟨?_, ?_, ?_⟩
    · rw [hb1.cell (p := ⟨ps, 0, none⟩) hpl, World.cell?_setCell_other _ _ _ _ (by simp)]; exact c0
    · rw [hb1.cell (p := ⟨ps, 2, none⟩) hpl, World.cell?_setCell_other _ _ _ _ (by simp)]; exact c2
    · have := Boxed.new (w.setCell ⟨ps, 4, none⟩ (.int .i64 0)) dd A B Cc hh gg vv dv
      rw [hz0] at this
      exact this
  have hL : ∀ W, Below (w.heap.size + 1) ((w.setCell ⟨ps, 4, none⟩ (.int .i64 0)).alloc (mvB dd A B Cc hh gg vv dv)) W → LimbS ps ph w.heap.size dd A B Cc hh gg vv dv vH W := fun W k => L0.like (k.block ps (by omega)) (k.block w.heap.size (by omega))
  have hOn : ∀ W w', Below (w.heap.size + 1) ((w.setCell ⟨ps, 4, none⟩ (.int .i64 0)).alloc (mvB dd A B Cc hh gg vv dv)) W → Below W.heap.size W w' → Below (w.heap.size + 1) ((w.setCell ⟨ps, 4, none⟩ (.int .i64 0)).alloc (mvB dd A B Cc hh gg vv dv)) w' := fun W w' k q => k.trans (q.mono (by have := k.size; rw [hsz] at this; exact this))
  obtain ⟨x4, c4⟩ := c4
  have a0 := (hb.cell (p := ⟨ps, 4, none⟩) hpl).trans c4
  have a1 : (w.alloc (mvB dd A B Cc hh gg vv dv)).frozen? ⟨ps, 4, none⟩ = false := by rw [← f4]; simp only [World.frozen?, hb.block ps hpl]
  have H30' : Hid (∀ W, Hid (Below (w.heap.size + 1) ((w.setCell ⟨ps, 4, none⟩ (.int .i64 0)).alloc (mvB dd A B Cc hh gg vv dv)) W) → Calls Tryz.prog 30 #[.pointer (some ⟨ps, 0, none⟩), .int .i64 hh] W fun e w' => e = .returned (.int .i64 hn) ∧ Hid (Below (w.heap.size + 1) ((w.setCell ⟨ps, 4, none⟩ (.int .i64 0)).alloc (mvB dd A B Cc hh gg vv dv)) w') ∧ LimbS ps ph w.heap.size dd A B Cc hh gg vv dv vH w') := hide (fun W hW => (H30 W (unhide hW)).mono fun e w' ⟨q1, q2⟩ => ⟨q1, hide (hOn W w' (unhide hW) q2.below), hL w' (hOn W w' (unhide hW) q2.below)⟩)
  have HR' : Hid (∀ W, Hid (Below (w.heap.size + 1) ((w.setCell ⟨ps, 4, none⟩ (.int .i64 0)).alloc (mvB dd A B Cc hh gg vv dv)) W) → R W) := hide (fun W hW => HR W (unhide hW))
  have hO0 : Hid (Below (w.heap.size + 1) ((w.setCell ⟨ps, 4, none⟩ (.int .i64 0)).alloc (mvB dd A B Cc hh gg vv dv)) ((w.setCell ⟨ps, 4, none⟩ (.int .i64 0)).alloc (mvB dd A B Cc hh gg vv dv))) := hide (Below.refl _ _)
  have t1 : decide (dd = 1) = false := decide_eq_false (by omega)
  have t2 : decide (dd = 2) = false := decide_eq_false (by omega)
  have t3 : decide (dd = 3) = false := decide_eq_false (by omega)
  have t4 : decide (dd = 4) = false := decide_eq_false (by omega)
  have t5 : decide (dd = 5) = false := decide_eq_false (by omega)
  have t6 : decide (dd = 6) = false := decide_eq_false (by omega)
  have t7 : decide (dd = 7) = false := decide_eq_false (by omega)
  have t8 : decide (dd = 8) = false := decide_eq_false (by omega)
  have t9 : decide (dd = 9) = false := decide_eq_false (by omega)
  clear H30 hOn hL hb hb1 hz0 hsz L0 c0 c2 c4 f4 HR
  unfold mvV
  unfold mvB at H30' hO0 a0 a1 HR'
  go_enter Tryz.func12, Tryz.ntmps12
  go_wp2_with fail
  refine (unhide H30' _ hO0).mono ?_
  clear hO0 a0 a1
  rintro e w1 ⟨rfl, hO1, ⟨x0, x2, ⟨r0, r1, r2, r3, r4, r5, r6, r7⟩⟩⟩
  go_wp2_with fail
  go_ret
  exact ⟨rfl, unhide HR' _ hO1⟩
end Go.Proofs.YtidfllgaeiopjaaGreat
namespace Go.Proofs.YtidfllgaeiopjaaGreat
open Go.ChangeShapes Go.WideShapes Go.ChangeAt Go.RowKit
set_option linter.unusedVariables false
set_option maxRecDepth 100000
set_option maxHeartbeats 1000000

/-- what Resize does, and its errno -/
def ResR (M : Hp) (A : Int) (M' : Hp) (last : Nat) : Prop :=
  (¬ (64 ≤ A ∧ A ≤ 524288) ∧ M' = M ∧ last = 36) ∨ ((64 ≤ A ∧ A ≤ 524288) ∧ ∃ M1, IsColl M M1 ∧ ((((A.toNat : Nat) < M1.used ∨ M1.limit < 2 * A.toNat + M1.large) ∧ last = 31 ∧ M' = M1) ∨ ((M1.used ≤ A.toNat ∧ 2 * A.toNat + M1.large ≤ M1.limit) ∧ last = 0 ∧ M' = becM M1 A.toNat)))
def StepR (dd A B Cc : Int) (M M' : Hp) (last : Nat) : Prop :=
  (dd = 1 → MakeR M A B Cc M' last) ∧ (dd = 8 → ∃ M1, IsColl M M1 ∧ M' = fitM M1 0) ∧ (dd = 9 → ResR M A M' last) ∧ (dd ≠ 1 → dd ≠ 9 → last = 0)
/-- behind a step -/
def After2 (w0 : Kp) (ps ph limit n : Nat) (Q : Hp → Nat → Prop) (w' : World) : Prop := ∃ tag' st' M' H' ns' C' last', Both0 w0 w' ps ph tag' st' M' H' ns' limit last' C' ∧ Bnd M' (n + 1) ∧ Q M' last'

theorem step_below {w : World} {ps : Nat} (x : Obj) (W : World) (k : Below (w.heap.size + 1) ((w.setCell ⟨ps, 4, none⟩ (.int .i64 0)).alloc x) W) : Below (w.setCell ⟨ps, 4, none⟩ (.int .i64 0)).heap.size (w.setCell ⟨ps, 4, none⟩ (.int .i64 0)) W ∧ w.heap.size < W.heap.size := by
  have hz : (w.setCell ⟨ps, 4, none⟩ (.int .i64 0)).heap.size = w.heap.size := World.size_setCell _ _ _
  have := box_below (w.setCell ⟨ps, 4, none⟩ (.int .i64 0)) x W (by rw [hz]; exact k)
  exact ⟨this.1, by have := this.2; omega⟩

/-- a handle is written on both sides -/
theorem Both0.hand {w0 : Kp} {W w5 W' : World} {ps ph : Nat} {tag tag' st : Nat → Nat} {M M' : Hp} {H H' : HC} {ns : List (Nat × List Nat × List Nat)} {limit last : Nat} {C : ShC} (b : Both0 w0 W ps ph tag st M H ns limit last C) {gH m : Nat} (o : Option Nat) (ho : C.vH.ownBlock = some gH) (hm : m < M.roots.length) (h5 : HAt w5 ph tag' M' H') (f : Fr tag tag' W w5) (er : M'.roots = M.roots.set m o) (el : M'.limit = M.limit) (g : Gr M' ns) (hst : Still (w5.setCell ⟨gH, m, none⟩ (.int .i64 (hval o))) W') : Both0 w0 W' ps ph tag' (tagAt st C.vH 3) M' H' ns limit last { C with vH := C.vH } := by
  have hkeep : ∀ g, st g ≠ 0 → w5.heap[g]? = W.heap[g]? ∧ tag' g = 0 := fun g e => f.blk g (b.sh.un g e) (b.ap g e)
  have s5 : ShAt w5 ps ph st ns M.roots limit last C := b.sh.same f.size fun g e => (hkeep g e).1
  have t3 := b.sh.t3 gH ho
  have hgp : gH ≠ ps := by rintro rfl; rw [b.sh.t1] at t3; cases t3
  have hbb : ∀ k, k ≠ gH → W'.heap[k]? = w5.heap[k]? := fun k hk => by rw [hst.heap]; exact setCell_else _ _ _ _ _ hk
  have hpp := hbb ps (Ne.symm hgp)
  have hsz : W'.heap.size = w5.heap.size := by rw [hst.heap, World.size_setCell]
  have hL := (s5.hn.put ho m (.int .i64 (hval o)) hm).same (w' := W') (fun g _ => by rw [hst.heap])
  obtain ⟨a1, a2⟩ := s5.hands (w' := W') (hd' := M.roots.set m o) (vH' := C.vH) (by
      rw [List.length_set]
      refine hL.congr fun j hj => ?_
      rw [getD_set_opt M.roots m j o hm]
      by_cases q : j = m
      · rw [if_pos q, if_pos q]
      · rw [if_neg q, if_neg q]) (fun g e => .inl e) ((cell_like hpp _).trans s5.c2) (by omega) (fun k hk1 h1 h3 => hbb k (by rintro rfl; exact h3 t3)) (fun k _ => cell_like hpp k) (fun k => froz_like hpp k)
  have o1 : OwnK w0 w5 tag' := b.o1.fr f
  refine .mk2 h5 o1 ⟨o1.be, b.o2.tg, o1.kp⟩ (fun g e => (hkeep g e).2) (el.trans b.li) ⟨hst.os, hst.tape, hst.output, by omega, fun k hk1 e => ⟨hbb k (by rintro rfl; rw [t3] at e; cases e), (a2 k hk1).trans e⟩⟩ (by rw [er]; exact a1) g

theorem step_any {w0 : Kp} {w : World} {ps ph : Nat} {tag st : Nat → Nat} {M : Hp} {H : HC} {ns : List (Nat × List Nat × List Nat)} {limit last : Nat} {C : ShC} (b0 : Both0 w0 w ps ph tag st M H ns limit last C) {n : Nat} (bd : Bnd M n) (hn : n ≤ 10000) (dd A B Cc hh gg : Int) (vv : Nat) (da : Option Addr) (dc : Nat) (d : List Nat) (ok : DataOk w0.w A vv da dc d) :
    Calls Tryz.prog 12 #[.pointer (some ⟨ps, 0, none⟩), mvV dd A B Cc hh gg vv (.slice da d.length dc)] w fun e w' => e = .returned (.bool true) ∧ After2 w0 ps ph limit n (StepR dd A B Cc M) w' := by
  obtain ⟨sn, fn⟩ := b0.sh.noted 0
  have b : Both0 w0 (w.setCell ⟨ps, 4, none⟩ (.int .i64 ((0 : Nat) : Int))) ps ph tag st M H ns limit 0 C := b0.shad fn sn b0.gr
  have hrt := bd.rt
  have hcl := bd.cl
  have hrz := bd.rz
  have hbW : ∀ W, Below (w.heap.size + 1) ((w.setCell ⟨ps, 4, none⟩ (.int .i64 0)).alloc (mvB dd A B Cc hh gg vv (.slice da d.length dc))) W → Both0 w0 W ps ph tag st M H ns limit 0 C := fun W k => b.below (step_below _ W k).1
  have H30 : ∀ h W, Below (w.heap.size + 1) ((w.setCell ⟨ps, 4, none⟩ (.int .i64 0)).alloc (mvB dd A B Cc hh gg vv (.slice da d.length dc))) W → Calls Tryz.prog 30 #[.pointer (some ⟨ps, 0, none⟩), .int .i64 h] W fun e w' => e = .returned (.int .i64 (handN M.roots.length h)) ∧ Still W w' := fun h W k => hand_any (hbW W k).sh (by omega) h
  have H33 : ∀ x W, Below (w.heap.size + 1) ((w.setCell ⟨ps, 4, none⟩ (.int .i64 0)).alloc (mvB dd A B Cc hh gg vv (.slice da d.length dc))) W → Calls Tryz.prog 33 #[.pointer (some ⟨ps, 0, none⟩), .int .i64 x] W fun e w' => e = .returned (.int .i64 (heldV M.roots x)) ∧ Still W w' := fun x W k => held_any (hbW W k).sh (by omega) x
  have htz : tag w.heap.size = 0 := tag_new b0
  have hplain : ∀ Q : Hp → Nat → Prop, Q M 0 → ∀ W, Below (w.heap.size + 1) ((w.setCell ⟨ps, 4, none⟩ (.int .i64 0)).alloc (mvB dd A B Cc hh gg vv (.slice da d.length dc))) W → After2 w0 ps ph limit n Q W := fun Q hQ W k => ⟨tag, st, M, H, ns, C, 0, hbW W k, bd.same rfl rfl rfl rfl (Nat.le_succ _), hQ⟩
  have c0 := b0.sh.c0
  have c2 := b0.sh.c2
  have c4 : ∃ x, w.cell? ⟨ps, 4, none⟩ = some x := ⟨_, b0.sh.c4⟩
  have f4 := b0.sh.fz 4 (by decide)
  by_cases d1 : dd = 1
  · subst d1
    refine step_make A B Cc hh gg vv _ C.vH rfl c0 c2 c4 f4 (H30 hh) (fun W k => ?_)
    refine (makes_any (hbW W k) bd hn 1 A B Cc hh gg vv _).mono ?_
    rintro e w' ⟨rfl, t', s', M', H', n', C', l', b', bd', r⟩
    exact ⟨rfl, t', s', M', H', n', C', l', b', bd', ⟨fun _ => r, fun h => absurd h (by decide), fun h => absurd h (by decide), fun h => absurd rfl h⟩⟩
  by_cases dc4 : dd = 2 ∨ dd = 3 ∨ dd = 4 ∨ dd = 7
  · refine step_change dd A B Cc hh gg vv _ C.vH rfl c0 c2 c4 f4 (H30 hh) dc4 (fun W k => ?_)
    refine (changes_any (hbW W k) bd hn dd A B Cc hh gg vv da dc d ok dc4).mono ?_
    rintro e w' ⟨rfl, t', s', M', H', n', C', b', bd'⟩
    exact ⟨rfl, t', s', M', H', n', C', 0, b', bd', ⟨fun h => absurd h d1, fun h => by omega, fun h => by omega, fun _ _ => rfl⟩⟩
  by_cases d8 : dd = 8
  · subst d8
    refine step_collect A B Cc hh gg vv _ C.vH rfl c0 c2 c4 f4 (H30 hh) (fun W k => ?_)
    have bW := hbW W k
    refine (hcollect_any bW.he (by omega) (by omega)).mono ?_
    rintro e w' ⟨rfl, t', H', M1, hc, h', f⟩
    have q := hc.nums
    obtain ⟨o1, o2, o3, _, o5⟩ := fitM_objs M1 0
    have fr := fitM_resz M1 0
    refine ⟨rfl, t', st, fitM M1 0, H', ns, C, 0, bW.heap f h' ((b.gr.coll b.he.wf hc).fit 0) (by rw [o2, q.2.2.2.2.1]) (by rw [o3, q.1]), ⟨?_, ?_, ?_, ?_, ?_, ?_, ?_⟩, ⟨fun h => absurd h (by decide), fun _ => ⟨M1, hc, rfl⟩, fun h => absurd h (by decide), fun _ _ => rfl⟩⟩
    · rw [o1, q.2.2.2.2.2]; exact bd.o1
    · rw [o1, q.2.2.2.2.2]; have := bd.ob; omega
    · rw [fr.2, q.2.2.1]; omega
    · have := fr.1; rw [q.2.2.2.1] at this; omega
    · rw [o5, coll_slots hc]; have := bd.sl; omega
    · rw [o2, q.2.2.2.2.1]; omega
    · rw [o5, coll_slots hc, o1, q.2.2.2.2.2]; exact bd.so
  by_cases d9 : dd = 9
  · subst d9
    refine step_resize A B Cc hh gg vv _ C.vH rfl c0 c2 c4 f4 (H30 hh) (G := fun c w5 => ∃ tag' M' H', Both0 w0 w5 ps ph tag' st M' H' ns limit 0 C ∧ Bnd M' (n + 1) ∧ ResR M A M' c) (fun W k => ?_) (fun c w5 hg W' hst => ?_)
    · have bW := hbW W k
      have hz := (step_below _ W k).2
      have hps : st ps ≠ 0 := by rw [b.sh.t1]; decide
      by_cases hA : 64 ≤ A ∧ A ≤ 524288
      · obtain ⟨a, rfl⟩ : ∃ a : Nat, A = (a : Nat) := ⟨A.toNat, by omega⟩
        refine (hresize_any bW.he (by omega) (by omega) a (by omega) (by omega)).mono ?_
        rintro e w' ⟨t', H', M1, hc, f, h⟩
        have q := hc.nums
        have hk1 := (f.blk ps (bW.sh.un ps hps) (b.ap ps hps)).1
        have hk2 := (f.blk _ hz htz).1
        have g1 := b.gr.coll b.he.wf hc
        have b1' : Bnd M1 (n + 1) := ⟨by rw [q.2.2.2.2.2]; exact bd.o1, by rw [q.2.2.2.2.2]; have := bd.ob; omega, by rw [q.2.2.1]; omega, by rw [q.2.2.2.1]; omega, by rw [coll_slots hc]; have := bd.sl; omega, by rw [q.2.2.2.2.1]; omega, by rw [coll_slots hc, q.2.2.2.2.2]; exact bd.so⟩
        rcases h with ⟨hno, rfl, h'⟩ | ⟨hyes, rfl, h'⟩
        · exact ⟨31, rfl, hk1, hk2, t', M1, H', bW.heap f h' g1 q.2.2.2.2.1 q.1, b1', .inr ⟨hA, M1, hc, .inl ⟨hno, rfl, rfl⟩⟩⟩
        · have o := becM_parts M1 a
          have fr := becM_resz M1 a
          refine ⟨0, rfl, hk1, hk2, t', becM M1 a, H', bW.heap f h' (g1.bec a) (by rw [o.2.1, q.2.2.2.2.1]) (by rw [o.2.2.1, q.1]), ⟨by rw [o.1]; exact b1'.o1, by rw [o.1]; exact b1'.ob, by rw [fr.2]; exact b1'.cl, ?_, by rw [o.2.2.2.2.1]; exact b1'.sl, by rw [o.2.1]; exact b1'.rt, by rw [o.2.2.2.2.1, o.1]; exact b1'.so⟩, .inr ⟨hA, M1, hc, .inr ⟨hyes, rfl, rfl⟩⟩⟩
          have := fr.1; rw [q.2.2.2.1] at this; omega
      · refine (resize_bad (n := A) (by omega)).mono ?_
        rintro e w' ⟨rfl, rfl⟩
        exact ⟨36, rfl, rfl, rfl, tag, M, H, bW, bd.same rfl rfl rfl rfl (Nat.le_succ _), .inl ⟨hA, rfl, rfl⟩⟩
    · obtain ⟨t', M', H', b5, bd5, r⟩ := hg
      obtain ⟨s6, f6⟩ := b5.sh.noted c
      exact ⟨t', st, M', H', ns, C, c, (b5.shad f6 s6 b5.gr).below hst.below, bd5, ⟨fun h => absurd h (by decide), fun h => absurd h (by decide), fun _ => r, fun _ h => absurd rfl h⟩⟩
  have hno : ∀ (M' : Hp), StepR dd A B Cc M M' 0 := fun M' => ⟨fun h => absurd h d1, fun h => absurd h d8, fun h => absurd h d9, fun _ _ => rfl⟩
  by_cases d5 : dd = 5
  · subst d5
    rcases held_cases M.roots (handN M.roots.length hh) with hx | ⟨m, i, e1, hm, hri, e2⟩
    · exact step_drop0 A B Cc hh gg vv _ C.vH rfl c0 c2 c4 f4 (H30 hh) (H33 _) (by rw [hx]; decide) (hplain _ (hno M))
    · obtain ⟨gH, ch, hvH, hoH, hcH⟩ := b0.sh.hn.at (by omega)
      have t3 := b.sh.t3 gH hoH
      refine step_drop A B Cc hh gg vv _ C.vH rfl c0 c2 c4 f4 (H30 hh) (H33 _) hvH hm (by omega) e1 (hcH m hm).1 (hcH m hm).2 (by rintro rfl; rw [b.sh.t1] at t3; cases t3) (G := fun w5 => ∃ W tag' H', Both0 w0 W ps ph tag st M H ns limit 0 C ∧ HAt w5 ph tag' (dropM M m) H' ∧ Fr tag tag' W w5) (fun W k => ?_) (by rw [e2]; omega) (fun w5 hg W' hst => ?_)
      · have bW := hbW W k
        have hz := (step_below _ W k).2
        have := hdropM_yes bW.he (by omega) m i hri hm
        rw [← e1] at this
        refine this.mono ?_
        rintro e w' ⟨rfl, t', H', h', f⟩
        have hg' : ∀ g, st g ≠ 0 → w'.heap[g]? = W.heap[g]? := fun g e => (f.blk g (bW.sh.un g e) (b.ap g e)).1
        exact ⟨rfl, hg' ps (by rw [b.sh.t1]; decide), (f.blk _ hz htz).1, hg' gH (by rw [t3]; decide), W, t', H', bW, h', f⟩
      · obtain ⟨W, t', H', bW, h', f⟩ := hg
        have b6 := bW.hand (m := m) none hoH hm h' f rfl rfl (b.gr.roots _) hst
        refine ⟨t', _, dropM M m, H', ns, _, 0, b6, bd.same rfl rfl rfl rfl ?_, hno _⟩
        show (M.roots.set m none).length ≤ _
        rw [List.length_set]; omega
  by_cases d6 : dd = 6
  · subst d6
    rcases held_cases M.roots (handN M.roots.length hh) with hx | ⟨m, i, e1, hm, hri, e2⟩
    · exact step_put0 A B Cc hh gg vv _ C.vH rfl c0 c2 c4 f4 (H30 hh) (H33 _) (H30 gg) (H33 _) (.inl (by rw [hx]; decide)) (hplain _ (hno M))
    rcases held_cases M.roots (handN M.roots.length gg) with hx | ⟨m', t, f1, hm', hrt', f2⟩
    · exact step_put0 A B Cc hh gg vv _ C.vH rfl c0 c2 c4 f4 (H30 hh) (H33 _) (H30 gg) (H33 _) (.inr (by rw [hx]; decide)) (hplain _ (hno M))
    · obtain ⟨gH, ch, hvH, hoH, hcH⟩ := b0.sh.hn.at (by omega)
      have t3 := b.sh.t3 gH hoH
      obtain ⟨q1, q2, q3⟩ := may_ref b.he.wf.ok (root_is b.he.wf.ok hm' hrt')
      have H33g := H33 (handN M.roots.length gg)
      rw [f2] at H33g
      refine step_put A B Cc hh gg vv _ C.vH rfl c0 c2 c4 f4 (H30 hh) (H33 _) (H30 gg) H33g (v := refW M t) (fun W k => by rw [f1]; exact at_held (hbW W k).he (by omega) hm' hrt') hvH hm (by omega) e1 (hcH m hm).1 (hcH m hm).2 (by rintro rfl; rw [b.sh.t1] at t3; cases t3) (G := fun w5 => ∃ W tag' H', Both0 w0 W ps ph tag st M H ns limit 0 C ∧ HAt w5 ph tag' (putM M m (refW M t)) H' ∧ Fr tag tag' W w5) (fun W k => ?_) (by rw [e2]; omega) (by omega) (fun w5 hg W' hst => ?_)
      · have bW := hbW W k
        have hz := (step_below _ W k).2
        have := hputM_yes bW.he (refW M t) q3 m i hri hm
        rw [← e1, q1] at this
        refine this.mono ?_
        rintro e w' ⟨rfl, t', H', h', f⟩
        have hg' : ∀ g, st g ≠ 0 → w'.heap[g]? = W.heap[g]? := fun g e => (f.blk g (bW.sh.un g e) (b.ap g e)).1
        exact ⟨rfl, hg' ps (by rw [b.sh.t1]; decide), (f.blk _ hz htz).1, hg' gH (by rw [t3]; decide), W, t', H', bW, h', f⟩
      · obtain ⟨W, t', H', bW, h', f⟩ := hg
        have b6 := bW.hand (m := m) (some t) hoH hm h' f (by show M.roots.set m (some (numOf M (refW M t))) = _; rw [q2]) rfl (b.gr.roots _) hst
        refine ⟨t', _, putM M m (refW M t), H', ns, _, 0, b6, bd.same rfl rfl rfl rfl ?_, hno _⟩
        show (M.roots.set m _).length ≤ _
        rw [List.length_set]; omega
  exact step_other dd A B Cc hh gg vv _ C.vH rfl c0 c2 c4 f4 (H30 hh) (by omega) (hplain _ (hno M))
end Go.Proofs.YtidfllgaeiopjaaGreat
