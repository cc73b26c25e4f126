/- step: the walks. -/
import Derived.Test.YtidfllgaeiopjaaGreatStA
namespace Go.Proofs.YtidfllgaeiopjaaGreat
open Go.ChangeShapes Go.WideShapes Go.ChangeAt Go.RowKit
set_option linter.unusedVariables false
set_option linter.unusedSimpArgs false
set_option maxRecDepth 100000
set_option maxHeartbeats 1000000

theorem step_put0 {w : World} {ps ph : Nat} (A B Cc hh gg : Int) (vv : Nat) (dv vH : Value) (hod : dv.oneCell' = true) {hn : Int} (c0 : w.cell? ⟨ps, 0, none⟩ = some (.pointer (some ⟨ph, 0, none⟩))) (c2 : w.cell? ⟨ps, 2, none⟩ = some vH) (c4 : ∃ x, w.cell? ⟨ps, 4, none⟩ = some x) (f4 : w.frozen? ⟨ps, 4, none⟩ = false)
    (H30 : ∀ W, Below (w.heap.size + 1) ((w.setCell ⟨ps, 4, none⟩ (.int .i64 0)).alloc (mvB 6 A B Cc hh gg vv dv)) W → Calls Tryz.prog 30 #[.pointer (some ⟨ps, 0, none⟩), .int .i64 hh] W fun e w' => e = .returned (.int .i64 hn) ∧ Still W w')
    {hv : Int} (H33 : ∀ W, Below (w.heap.size + 1) ((w.setCell ⟨ps, 4, none⟩ (.int .i64 0)).alloc (mvB 6 A B Cc hh gg vv dv)) W → Calls Tryz.prog 33 #[.pointer (some ⟨ps, 0, none⟩), .int .i64 hn] W fun e w' => e = .returned (.int .i64 hv) ∧ Still W w' ) {hg tn : Int} (H30g : ∀ W, Below (w.heap.size + 1) ((w.setCell ⟨ps, 4, none⟩ (.int .i64 0)).alloc (mvB 6 A B Cc hh gg vv dv)) W → Calls Tryz.prog 30 #[.pointer (some ⟨ps, 0, none⟩), .int .i64 gg] W fun e w' => e = .returned (.int .i64 hg) ∧ Still W w') (H33g : ∀ W, Below (w.heap.size + 1) ((w.setCell ⟨ps, 4, none⟩ (.int .i64 0)).alloc (mvB 6 A B Cc hh gg vv dv)) W → Calls Tryz.prog 33 #[.pointer (some ⟨ps, 0, none⟩), .int .i64 hg] W fun e w' => e = .returned (.int .i64 tn) ∧ Still W w' ) {R : World → Prop} (hneg : hv < 0 ∨ tn < 0) (HR : ∀ W, Below (w.heap.size + 1) ((w.setCell ⟨ps, 4, none⟩ (.int .i64 0)).alloc (mvB 6 A B Cc hh gg vv dv)) W → R W) :
    Calls Tryz.prog 12 #[.pointer (some ⟨ps, 0, none⟩), mvV 6 A B Cc hh gg vv dv] w fun e w' => e = .returned (.bool true) ∧ R w' := by
  have hpl : ps < w.heap.size := block_lt_of_cell c0
  have hb : Below w.heap.size w (w.alloc (mvB 6 A B Cc hh gg vv dv)) := (Below.refl _ _).alloc (Nat.le_refl _) _
  have hz0 : (w.setCell ⟨ps, 4, none⟩ (.int .i64 0)).heap.size = w.heap.size := World.size_setCell _ _ _
  have hsz : ((w.setCell ⟨ps, 4, none⟩ (.int .i64 0)).alloc (mvB 6 A B Cc hh gg vv dv)).heap.size = w.heap.size + 1 := by simp
  have hb1 : Below w.heap.size (w.setCell ⟨ps, 4, none⟩ (.int .i64 0)) ((w.setCell ⟨ps, 4, none⟩ (.int .i64 0)).alloc (mvB 6 A B Cc hh gg vv dv)) := by rw [← hz0]; exact (Below.refl _ _).alloc (Nat.le_refl _) _
  have L0 : LimbS ps ph w.heap.size 6 A B Cc hh gg vv dv vH ((w.setCell ⟨ps, 4, none⟩ (.int .i64 0)).alloc (mvB 6 A B Cc hh gg vv dv)) := by
    refine ⟨?_, ?_, ?_⟩
    · rw [hb1.cell (p := ⟨ps, 0, none⟩) hpl, World.cell?_setCell_other _ _ _ _ (by simp)]; exact c0
    · rw [hb1.cell (p := ⟨ps, 2, none⟩) hpl, World.cell?_setCell_other _ _ _ _ (by simp)]; exact c2
    · have := Boxed.new (w.setCell ⟨ps, 4, none⟩ (.int .i64 0)) 6 A B Cc hh gg vv dv
      rw [hz0] at this
      exact this
  have hL : ∀ W, Below (w.heap.size + 1) ((w.setCell ⟨ps, 4, none⟩ (.int .i64 0)).alloc (mvB 6 A B Cc hh gg vv dv)) W → LimbS ps ph w.heap.size 6 A B Cc hh gg vv dv vH W := fun W k => L0.like (k.block ps (by omega)) (k.block w.heap.size (by omega))
  have hOn : ∀ W w', Below (w.heap.size + 1) ((w.setCell ⟨ps, 4, none⟩ (.int .i64 0)).alloc (mvB 6 A B Cc hh gg vv dv)) W → Below W.heap.size W w' → Below (w.heap.size + 1) ((w.setCell ⟨ps, 4, none⟩ (.int .i64 0)).alloc (mvB 6 A B Cc hh gg vv dv)) w' := fun W w' k q => k.trans (q.mono (by have := k.size; rw [hsz] at this; exact this))
  obtain ⟨x4, c4⟩ := c4
  have a0 := (hb.cell (p := ⟨ps, 4, none⟩) hpl).trans c4
  have a1 : (w.alloc (mvB 6 A B Cc hh gg vv dv)).frozen? ⟨ps, 4, none⟩ = false := by rw [← f4]; simp only [World.frozen?, hb.block ps hpl]
  have H30' : Hid (∀ W, Hid (Below (w.heap.size + 1) ((w.setCell ⟨ps, 4, none⟩ (.int .i64 0)).alloc (mvB 6 A B Cc hh gg vv dv)) W) → Calls Tryz.prog 30 #[.pointer (some ⟨ps, 0, none⟩), .int .i64 hh] W fun e w' => e = .returned (.int .i64 hn) ∧ Hid (Below (w.heap.size + 1) ((w.setCell ⟨ps, 4, none⟩ (.int .i64 0)).alloc (mvB 6 A B Cc hh gg vv dv)) w') ∧ LimbS ps ph w.heap.size 6 A B Cc hh gg vv dv vH w') := hide (fun W hW => (H30 W (unhide hW)).mono fun e w' ⟨q1, q2⟩ => ⟨q1, hide (hOn W w' (unhide hW) q2.below), hL w' (hOn W w' (unhide hW) q2.below)⟩)
  have H33' : Hid (∀ W, Hid (Below (w.heap.size + 1) ((w.setCell ⟨ps, 4, none⟩ (.int .i64 0)).alloc (mvB 6 A B Cc hh gg vv dv)) W) → Calls Tryz.prog 33 #[.pointer (some ⟨ps, 0, none⟩), .int .i64 hn] W fun e w' => e = .returned (.int .i64 hv) ∧ Hid (Below (w.heap.size + 1) ((w.setCell ⟨ps, 4, none⟩ (.int .i64 0)).alloc (mvB 6 A B Cc hh gg vv dv)) w') ∧ LimbS ps ph w.heap.size 6 A B Cc hh gg vv dv vH w') := hide (fun W hW => (H33 W (unhide hW)).mono fun e w' ⟨q1, q2⟩ => ⟨q1, hide (hOn W w' (unhide hW) q2.below), hL w' (hOn W w' (unhide hW) q2.below)⟩)
  have H30g' : Hid (∀ W, Hid (Below (w.heap.size + 1) ((w.setCell ⟨ps, 4, none⟩ (.int .i64 0)).alloc (mvB 6 A B Cc hh gg vv dv)) W) → Calls Tryz.prog 30 #[.pointer (some ⟨ps, 0, none⟩), .int .i64 gg] W fun e w' => e = .returned (.int .i64 hg) ∧ Hid (Below (w.heap.size + 1) ((w.setCell ⟨ps, 4, none⟩ (.int .i64 0)).alloc (mvB 6 A B Cc hh gg vv dv)) w') ∧ LimbS ps ph w.heap.size 6 A B Cc hh gg vv dv vH w') := hide (fun W hW => (H30g W (unhide hW)).mono fun e w' ⟨q1, q2⟩ => ⟨q1, hide (hOn W w' (unhide hW) q2.below), hL w' (hOn W w' (unhide hW) q2.below)⟩)
  have H33g' : Hid (∀ W, Hid (Below (w.heap.size + 1) ((w.setCell ⟨ps, 4, none⟩ (.int .i64 0)).alloc (mvB 6 A B Cc hh gg vv dv)) W) → Calls Tryz.prog 33 #[.pointer (some ⟨ps, 0, none⟩), .int .i64 hg] W fun e w' => e = .returned (.int .i64 tn) ∧ Hid (Below (w.heap.size + 1) ((w.setCell ⟨ps, 4, none⟩ (.int .i64 0)).alloc (mvB 6 A B Cc hh gg vv dv)) w') ∧ LimbS ps ph w.heap.size 6 A B Cc hh gg vv dv vH w') := hide (fun W hW => (H33g W (unhide hW)).mono fun e w' ⟨q1, q2⟩ => ⟨q1, hide (hOn W w' (unhide hW) q2.below), hL w' (hOn W w' (unhide hW) q2.below)⟩)
  have HR' : Hid (∀ W, Hid (Below (w.heap.size + 1) ((w.setCell ⟨ps, 4, none⟩ (.int .i64 0)).alloc (mvB 6 A B Cc hh gg vv dv)) W) → R W) := hide (fun W hW => HR W (unhide hW))
  have hO0 : Hid (Below (w.heap.size + 1) ((w.setCell ⟨ps, 4, none⟩ (.int .i64 0)).alloc (mvB 6 A B Cc hh gg vv dv)) ((w.setCell ⟨ps, 4, none⟩ (.int .i64 0)).alloc (mvB 6 A B Cc hh gg vv dv))) := hide (Below.refl _ _)
  clear H30 hOn hL hb hb1 hz0 hsz L0 c0 c2 c4 f4 HR H33 H30g H33g
  unfold mvV
  unfold mvB at H30' hO0 a0 a1 H33' HR' H30g' H33g'
  go_enter Tryz.func12, Tryz.ntmps12
  go_wp2_with fail
  refine (unhide H30' _ hO0).mono ?_
  clear hO0 a0 a1
  rintro e w1 ⟨rfl, hO1, ⟨x0, x2, ⟨r0, r1, r2, r3, r4, r5, r6, r7⟩⟩⟩
  go_wp2_with fail
  refine (unhide H30g' _ hO1).mono ?_
  rintro e w2 ⟨rfl, hO2, ⟨x0, x2, ⟨r0, r1, r2, r3, r4, r5, r6, r7⟩⟩⟩
  go_wp2_with fail
  refine (unhide H33g' _ hO2).mono ?_
  rintro e w3 ⟨rfl, hO3, ⟨x0, x2, ⟨r0, r1, r2, r3, r4, r5, r6, r7⟩⟩⟩
  by_cases h1 : hv < 0
  · have t1 : decide (hv < 0) = true := decide_eq_true h1
    go_wp2_with fail
    refine (unhide H33' _ hO3).mono ?_
    rintro e w4 ⟨rfl, hO4, ⟨x0, x2, ⟨r0, r1, r2, r3, r4, r5, r6, r7⟩⟩⟩
    go_wp2_with fail
    go_ret
    exact ⟨rfl, unhide HR' _ hO4⟩
  · have t1 : decide (hv < 0) = false := decide_eq_false h1
    have t2 : decide (tn < 0) = true := decide_eq_true (by omega)
    go_wp2_with fail
    refine (unhide H33' _ hO3).mono ?_
    rintro e w4 ⟨rfl, hO4, ⟨x0, x2, ⟨r0, r1, r2, r3, r4, r5, r6, r7⟩⟩⟩
    go_wp2_with fail
    go_ret
    exact ⟨rfl, unhide HR' _ hO4⟩

theorem step_put {w : World} {ps ph : Nat} (A B Cc hh gg : Int) (vv : Nat) (dv vH : Value) (hod : dv.oneCell' = true) {hn : Int} (c0 : w.cell? ⟨ps, 0, none⟩ = some (.pointer (some ⟨ph, 0, none⟩))) (c2 : w.cell? ⟨ps, 2, none⟩ = some vH) (c4 : ∃ x, w.cell? ⟨ps, 4, none⟩ = some x) (f4 : w.frozen? ⟨ps, 4, none⟩ = false)
    (H30 : ∀ W, Below (w.heap.size + 1) ((w.setCell ⟨ps, 4, none⟩ (.int .i64 0)).alloc (mvB 6 A B Cc hh gg vv dv)) W → Calls Tryz.prog 30 #[.pointer (some ⟨ps, 0, none⟩), .int .i64 hh] W fun e w' => e = .returned (.int .i64 hn) ∧ Still W w')
    {hv : Int} (H33 : ∀ W, Below (w.heap.size + 1) ((w.setCell ⟨ps, 4, none⟩ (.int .i64 0)).alloc (mvB 6 A B Cc hh gg vv dv)) W → Calls Tryz.prog 33 #[.pointer (some ⟨ps, 0, none⟩), .int .i64 hn] W fun e w' => e = .returned (.int .i64 hv) ∧ Still W w' ) {hg tn : Int} (H30g : ∀ W, Below (w.heap.size + 1) ((w.setCell ⟨ps, 4, none⟩ (.int .i64 0)).alloc (mvB 6 A B Cc hh gg vv dv)) W → Calls Tryz.prog 30 #[.pointer (some ⟨ps, 0, none⟩), .int .i64 gg] W fun e w' => e = .returned (.int .i64 hg) ∧ Still W w') (H33g : ∀ W, Below (w.heap.size + 1) ((w.setCell ⟨ps, 4, none⟩ (.int .i64 0)).alloc (mvB 6 A B Cc hh gg vv dv)) W → Calls Tryz.prog 33 #[.pointer (some ⟨ps, 0, none⟩), .int .i64 hg] W fun e w' => e = .returned (.int .i64 tn) ∧ Still W w' ) {v : Nat} (H28g : ∀ W, Below (w.heap.size + 1) ((w.setCell ⟨ps, 4, none⟩ (.int .i64 0)).alloc (mvB 6 A B Cc hh gg vv dv)) W → Calls Tryz.prog 28 #[.pointer (some ⟨ph, 0, none⟩), .int .i64 hg] W fun e w' => e = .returned (.tuple #[.int .u64 (v : Nat), .int .i64 0]) ∧ Below W.heap.size W w' ) {m gH lh ch : Nat} {xH : Value} {G : World → Prop} (hvH : vH = .slice (some ⟨gH, 0, none⟩) lh ch) (hml : m < lh) (hlh : lh ≤ 1000000) (hhn : hn = (m : Nat) + 1) (cH : w.cell? ⟨gH, m, none⟩ = some xH) (fH : w.frozen? ⟨gH, m, none⟩ = false) (ngp : gH ≠ ps) (HC : ∀ W, Below (w.heap.size + 1) ((w.setCell ⟨ps, 4, none⟩ (.int .i64 0)).alloc (mvB 6 A B Cc hh gg vv dv)) W → Calls Tryz.prog 35 #[.pointer (some ⟨ph, 0, none⟩), .int .i64 hn, .int .u64 (v : Nat)] W fun e w' => e = .returned (.int .i64 0) ∧ w'.heap[ps]? = W.heap[ps]? ∧ w'.heap[w.heap.size]? = W.heap[w.heap.size]? ∧ w'.heap[gH]? = W.heap[gH]? ∧ G w' ) {R : World → Prop} (hneg : 0 ≤ hv) (hneg2 : 0 ≤ tn) (HR : ∀ w5, G w5 → ∀ W, Still (w5.setCell ⟨gH, m, none⟩ (.int .i64 tn)) W → R W) :
    Calls Tryz.prog 12 #[.pointer (some ⟨ps, 0, none⟩), mvV 6 A B Cc hh gg vv dv] w fun e w' => e = .returned (.bool true) ∧ R w' := by
  have hpl : ps < w.heap.size := block_lt_of_cell c0
  have hb : Below w.heap.size w (w.alloc (mvB 6 A B Cc hh gg vv dv)) := (Below.refl _ _).alloc (Nat.le_refl _) _
  have hz0 : (w.setCell ⟨ps, 4, none⟩ (.int .i64 0)).heap.size = w.heap.size := World.size_setCell _ _ _
  have hsz : ((w.setCell ⟨ps, 4, none⟩ (.int .i64 0)).alloc (mvB 6 A B Cc hh gg vv dv)).heap.size = w.heap.size + 1 := by simp
  have hb1 : Below w.heap.size (w.setCell ⟨ps, 4, none⟩ (.int .i64 0)) ((w.setCell ⟨ps, 4, none⟩ (.int .i64 0)).alloc (mvB 6 A B Cc hh gg vv dv)) := by rw [← hz0]; exact (Below.refl _ _).alloc (Nat.le_refl _) _
  have L0 : LimbS ps ph w.heap.size 6 A B Cc hh gg vv dv vH ((w.setCell ⟨ps, 4, none⟩ (.int .i64 0)).alloc (mvB 6 A B Cc hh gg vv dv)) := by
    refine ⟨?_, ?_, ?_⟩
    · rw [hb1.cell (p := ⟨ps, 0, none⟩) hpl, World.cell?_setCell_other _ _ _ _ (by simp)]; exact c0
    · rw [hb1.cell (p := ⟨ps, 2, none⟩) hpl, World.cell?_setCell_other _ _ _ _ (by simp)]; exact c2
    · have := Boxed.new (w.setCell ⟨ps, 4, none⟩ (.int .i64 0)) 6 A B Cc hh gg vv dv
      rw [hz0] at this
      exact this
  have hL : ∀ W, Below (w.heap.size + 1) ((w.setCell ⟨ps, 4, none⟩ (.int .i64 0)).alloc (mvB 6 A B Cc hh gg vv dv)) W → LimbS ps ph w.heap.size 6 A B Cc hh gg vv dv vH W := fun W k => L0.like (k.block ps (by omega)) (k.block w.heap.size (by omega))
  have hOn : ∀ W w', Below (w.heap.size + 1) ((w.setCell ⟨ps, 4, none⟩ (.int .i64 0)).alloc (mvB 6 A B Cc hh gg vv dv)) W → Below W.heap.size W w' → Below (w.heap.size + 1) ((w.setCell ⟨ps, 4, none⟩ (.int .i64 0)).alloc (mvB 6 A B Cc hh gg vv dv)) w' := fun W w' k q => k.trans (q.mono (by have := k.size; rw [hsz] at this; exact this))
  obtain ⟨x4, c4⟩ := c4
  have a0 := (hb.cell (p := ⟨ps, 4, none⟩) hpl).trans c4
  have a1 : (w.alloc (mvB 6 A B Cc hh gg vv dv)).frozen? ⟨ps, 4, none⟩ = false := by rw [← f4]; simp only [World.frozen?, hb.block ps hpl]
  have H30' : Hid (∀ W, Hid (Below (w.heap.size + 1) ((w.setCell ⟨ps, 4, none⟩ (.int .i64 0)).alloc (mvB 6 A B Cc hh gg vv dv)) W) → Calls Tryz.prog 30 #[.pointer (some ⟨ps, 0, none⟩), .int .i64 hh] W fun e w' => e = .returned (.int .i64 hn) ∧ Hid (Below (w.heap.size + 1) ((w.setCell ⟨ps, 4, none⟩ (.int .i64 0)).alloc (mvB 6 A B Cc hh gg vv dv)) w') ∧ LimbS ps ph w.heap.size 6 A B Cc hh gg vv dv vH w') := hide (fun W hW => (H30 W (unhide hW)).mono fun e w' ⟨q1, q2⟩ => ⟨q1, hide (hOn W w' (unhide hW) q2.below), hL w' (hOn W w' (unhide hW) q2.below)⟩)
  have H33' : Hid (∀ W, Hid (Below (w.heap.size + 1) ((w.setCell ⟨ps, 4, none⟩ (.int .i64 0)).alloc (mvB 6 A B Cc hh gg vv dv)) W) → Calls Tryz.prog 33 #[.pointer (some ⟨ps, 0, none⟩), .int .i64 hn] W fun e w' => e = .returned (.int .i64 hv) ∧ Hid (Below (w.heap.size + 1) ((w.setCell ⟨ps, 4, none⟩ (.int .i64 0)).alloc (mvB 6 A B Cc hh gg vv dv)) w') ∧ LimbS ps ph w.heap.size 6 A B Cc hh gg vv dv vH w') := hide (fun W hW => (H33 W (unhide hW)).mono fun e w' ⟨q1, q2⟩ => ⟨q1, hide (hOn W w' (unhide hW) q2.below), hL w' (hOn W w' (unhide hW) q2.below)⟩)
  have H30g' : Hid (∀ W, Hid (Below (w.heap.size + 1) ((w.setCell ⟨ps, 4, none⟩ (.int .i64 0)).alloc (mvB 6 A B Cc hh gg vv dv)) W) → Calls Tryz.prog 30 #[.pointer (some ⟨ps, 0, none⟩), .int .i64 gg] W fun e w' => e = .returned (.int .i64 hg) ∧ Hid (Below (w.heap.size + 1) ((w.setCell ⟨ps, 4, none⟩ (.int .i64 0)).alloc (mvB 6 A B Cc hh gg vv dv)) w') ∧ LimbS ps ph w.heap.size 6 A B Cc hh gg vv dv vH w') := hide (fun W hW => (H30g W (unhide hW)).mono fun e w' ⟨q1, q2⟩ => ⟨q1, hide (hOn W w' (unhide hW) q2.below), hL w' (hOn W w' (unhide hW) q2.below)⟩)
  have H33g' : Hid (∀ W, Hid (Below (w.heap.size + 1) ((w.setCell ⟨ps, 4, none⟩ (.int .i64 0)).alloc (mvB 6 A B Cc hh gg vv dv)) W) → Calls Tryz.prog 33 #[.pointer (some ⟨ps, 0, none⟩), .int .i64 hg] W fun e w' => e = .returned (.int .i64 tn) ∧ Hid (Below (w.heap.size + 1) ((w.setCell ⟨ps, 4, none⟩ (.int .i64 0)).alloc (mvB 6 A B Cc hh gg vv dv)) w') ∧ LimbS ps ph w.heap.size 6 A B Cc hh gg vv dv vH w') := hide (fun W hW => (H33g W (unhide hW)).mono fun e w' ⟨q1, q2⟩ => ⟨q1, hide (hOn W w' (unhide hW) q2.below), hL w' (hOn W w' (unhide hW) q2.below)⟩)
  have H28g' : Hid (∀ W, Hid (Below (w.heap.size + 1) ((w.setCell ⟨ps, 4, none⟩ (.int .i64 0)).alloc (mvB 6 A B Cc hh gg vv dv)) W) → Calls Tryz.prog 28 #[.pointer (some ⟨ph, 0, none⟩), .int .i64 hg] W fun e w' => e = .returned (.tuple #[.int .u64 (v : Nat), .int .i64 0]) ∧ Hid (Below (w.heap.size + 1) ((w.setCell ⟨ps, 4, none⟩ (.int .i64 0)).alloc (mvB 6 A B Cc hh gg vv dv)) w') ∧ LimbS ps ph w.heap.size 6 A B Cc hh gg vv dv vH w') := hide (fun W hW => (H28g W (unhide hW)).mono fun e w' ⟨q1, q2⟩ => ⟨q1, hide (hOn W w' (unhide hW) q2), hL w' (hOn W w' (unhide hW) q2)⟩)
  have hgl : gH < w.heap.size := block_lt_of_cell cH
  have HC' : Hid (∀ W, Hid (Below (w.heap.size + 1) ((w.setCell ⟨ps, 4, none⟩ (.int .i64 0)).alloc (mvB 6 A B Cc hh gg vv dv)) W) → Calls Tryz.prog 35 #[.pointer (some ⟨ph, 0, none⟩), .int .i64 hn, .int .u64 (v : Nat)] W fun e w' => e = .returned (.int .i64 0) ∧ LimbS ps ph w.heap.size 6 A B Cc hh gg vv dv vH w' ∧ w'.cell? ⟨gH, m, none⟩ = some xH ∧ w'.frozen? ⟨gH, m, none⟩ = false ∧ Hid (G w') ) := hide (fun W hW => (HC W (unhide hW)).mono fun e w' ⟨q1, q2, q3, q5, q4⟩ => by
    have hl := (hL W (unhide hW)).like q2 q3
    have e1 : w'.heap[gH]? = w.heap[gH]? := q5.trans (((unhide hW).block gH (by omega)).trans ((hb1.block gH hgl).trans (setCell_else _ _ _ _ _ ngp)))
    exact ⟨q1, hl, by rw [← cH]; simp only [World.cell?, e1], by rw [← fH]; simp only [World.frozen?, e1], hide q4⟩)
  have HR' := hide HR
  have ngb : gH ≠ w.heap.size := Nat.ne_of_lt hgl
  have HVH := hide hvH
  have HHN := hide hhn
  have hO0 : Hid (Below (w.heap.size + 1) ((w.setCell ⟨ps, 4, none⟩ (.int .i64 0)).alloc (mvB 6 A B Cc hh gg vv dv)) ((w.setCell ⟨ps, 4, none⟩ (.int .i64 0)).alloc (mvB 6 A B Cc hh gg vv dv))) := hide (Below.refl _ _)
  have t1 : decide (hv < 0) = false := decide_eq_false (by omega)
  have t2 : decide (tn < 0) = false := decide_eq_false (by omega)
  clear H30 hOn hL hb hb1 hz0 hsz L0 c0 c2 c4 f4 HR H33 H30g H33g H28g HC cH fH hvH hhn
  unfold mvV
  unfold mvB at H30' hO0 a0 a1 H33' HC' H30g' H33g' H28g'
  go_enter Tryz.func12, Tryz.ntmps12
  go_wp2_with fail
  refine (unhide H30' _ hO0).mono ?_
  clear hO0 a0 a1
  rintro e w1 ⟨rfl, hO1, ⟨x0, x2, ⟨r0, r1, r2, r3, r4, r5, r6, r7⟩⟩⟩
  generalize hB : w.heap.size = b at *
  go_wp2_with fail
  refine (unhide H30g' _ hO1).mono ?_
  rintro e w2 ⟨rfl, hO2, ⟨x0, x2, ⟨r0, r1, r2, r3, r4, r5, r6, r7⟩⟩⟩
  go_wp2_with fail
  refine (unhide H33g' _ hO2).mono ?_
  rintro e w3 ⟨rfl, hO3, ⟨x0, x2, ⟨r0, r1, r2, r3, r4, r5, r6, r7⟩⟩⟩
  go_wp2_with fail
  refine (unhide H33' _ hO3).mono ?_
  rintro e w4 ⟨rfl, hO4, ⟨x0, x2, ⟨r0, r1, r2, r3, r4, r5, r6, r7⟩⟩⟩
  go_wp2_with fail
  go_region_held3 (fun w' => w'.cell? ⟨ps, 0, none⟩ = some (.pointer (some ⟨ph, 0, none⟩)) ∧ w'.cell? ⟨b, 5, none⟩ = some (.int .i64 gg)) (go_keep) (first | (go_at_call 30; refine (unhide H30g' _ (hide (unhide hO4).drew)).mono ?_; rintro e w5 ⟨rfl, hO5, ⟨x0, x2, ⟨r0, r1, r2, r3, r4, r5, r6, r7⟩⟩⟩) | (go_at_call 28; refine (unhide H28g' _ hO5).mono ?_; rintro e w6 ⟨rfl, hO6, ⟨x0, x2, ⟨r0, r1, r2, r3, r4, r5, r6, r7⟩⟩⟩))
  go_wp2_with fail
  refine (unhide HC' _ hO6).mono ?_
  rintro e w7 ⟨rfl, ⟨x0, x2, ⟨r0, r1, r2, r3, r4, r5, r6, r7⟩⟩, u1, u2, hG⟩
  obtain rfl := unhide HVH
  obtain rfl := unhide HHN
  have su : IntKind.i64.wrap ((m : Int) + 1 - 1) = (m : Int) := by rw [show (m : Int) + 1 - 1 = (m : Int) by omega]; exact wrap_small _ (by omega) (by omega)
  have i3 : (0 : Int) ≤ (m : Nat) := by omega
  have i4 : (m : Int) < (lh : Nat) := by omega
  go_wp2_with fail
  (try go_region)
  all_goals go_wp2_with fail
  all_goals go_ret
  all_goals exact ⟨rfl, unhide HR' _ (unhide hG) _ (by first | exact Still.refl _ | exact (Still.refl _).drew _)⟩
end Go.Proofs.YtidfllgaeiopjaaGreat
namespace Go.Proofs.YtidfllgaeiopjaaGreat
open Go.ChangeShapes Go.WideShapes Go.ChangeAt Go.RowKit
set_option linter.unusedVariables false
set_option linter.unusedSimpArgs false
set_option maxRecDepth 100000
set_option maxHeartbeats 1000000

theorem step_drop0 {w : World} {ps ph : Nat} (A B Cc hh gg : Int) (vv : Nat) (dv vH : Value) (hod : dv.oneCell' = true) {hn : Int} (c0 : w.cell? ⟨ps, 0, none⟩ = some (.pointer (some ⟨ph, 0, none⟩))) (c2 : w.cell? ⟨ps, 2, none⟩ = some vH) (c4 : ∃ x, w.cell? ⟨ps, 4, none⟩ = some x) (f4 : w.frozen? ⟨ps, 4, none⟩ = false)
    (H30 : ∀ W, Below (w.heap.size + 1) ((w.setCell ⟨ps, 4, none⟩ (.int .i64 0)).alloc (mvB 5 A B Cc hh gg vv dv)) W → Calls Tryz.prog 30 #[.pointer (some ⟨ps, 0, none⟩), .int .i64 hh] W fun e w' => e = .returned (.int .i64 hn) ∧ Still W w')
    {hv : Int} (H33 : ∀ W, Below (w.heap.size + 1) ((w.setCell ⟨ps, 4, none⟩ (.int .i64 0)).alloc (mvB 5 A B Cc hh gg vv dv)) W → Calls Tryz.prog 33 #[.pointer (some ⟨ps, 0, none⟩), .int .i64 hn] W fun e w' => e = .returned (.int .i64 hv) ∧ Still W w' ) {R : World → Prop} (hneg : hv < 0) (HR : ∀ W, Below (w.heap.size + 1) ((w.setCell ⟨ps, 4, none⟩ (.int .i64 0)).alloc (mvB 5 A B Cc hh gg vv dv)) W → R W) :
    Calls Tryz.prog 12 #[.pointer (some ⟨ps, 0, none⟩), mvV 5 A B Cc hh gg vv dv] w fun e w' => e = .returned (.bool true) ∧ R w' := by
  have hpl : ps < w.heap.size := block_lt_of_cell c0
  have hb : Below w.heap.size w (w.alloc (mvB 5 A B Cc hh gg vv dv)) := (Below.refl _ _).alloc (Nat.le_refl _) _
  have hz0 : (w.setCell ⟨ps, 4, none⟩ (.int .i64 0)).heap.size = w.heap.size := World.size_setCell _ _ _
  have hsz : ((w.setCell ⟨ps, 4, none⟩ (.int .i64 0)).alloc (mvB 5 A B Cc hh gg vv dv)).heap.size = w.heap.size + 1 := by simp
  have hb1 : Below w.heap.size (w.setCell ⟨ps, 4, none⟩ (.int .i64 0)) ((w.setCell ⟨ps, 4, none⟩ (.int .i64 0)).alloc (mvB 5 A B Cc hh gg vv dv)) := by rw [← hz0]; exact (Below.refl _ _).alloc (Nat.le_refl _) _
  have L0 : LimbS ps ph w.heap.size 5 A B Cc hh gg vv dv vH ((w.setCell ⟨ps, 4, none⟩ (.int .i64 0)).alloc (mvB 5 A B Cc hh gg vv dv)) := by
    refine ⟨?_, ?_, ?_⟩
    · rw [hb1.cell (p := ⟨ps, 0, none⟩) hpl, World.cell?_setCell_other _ _ _ _ (by simp)]; exact c0
    · rw [hb1.cell (p := ⟨ps, 2, none⟩) hpl, World.cell?_setCell_other _ _ _ _ (by simp)]; exact c2
    · have := Boxed.new (w.setCell ⟨ps, 4, none⟩ (.int .i64 0)) 5 A B Cc hh gg vv dv
      rw [hz0] at this
      exact this
  have hL : ∀ W, Below (w.heap.size + 1) ((w.setCell ⟨ps, 4, none⟩ (.int .i64 0)).alloc (mvB 5 A B Cc hh gg vv dv)) W → LimbS ps ph w.heap.size 5 A B Cc hh gg vv dv vH W := fun W k => L0.like (k.block ps (by omega)) (k.block w.heap.size (by omega))
  have hOn : ∀ W w', Below (w.heap.size + 1) ((w.setCell ⟨ps, 4, none⟩ (.int .i64 0)).alloc (mvB 5 A B Cc hh gg vv dv)) W → Below W.heap.size W w' → Below (w.heap.size + 1) ((w.setCell ⟨ps, 4, none⟩ (.int .i64 0)).alloc (mvB 5 A B Cc hh gg vv dv)) w' := fun W w' k q => k.trans (q.mono (by have := k.size; rw [hsz] at this; exact this))
  obtain ⟨x4, c4⟩ := c4
  have a0 := (hb.cell (p := ⟨ps, 4, none⟩) hpl).trans c4
  have a1 : (w.alloc (mvB 5 A B Cc hh gg vv dv)).frozen? ⟨ps, 4, none⟩ = false := by rw [← f4]; simp only [World.frozen?, hb.block ps hpl]
  have H30' : Hid (∀ W, Hid (Below (w.heap.size + 1) ((w.setCell ⟨ps, 4, none⟩ (.int .i64 0)).alloc (mvB 5 A B Cc hh gg vv dv)) W) → Calls Tryz.prog 30 #[.pointer (some ⟨ps, 0, none⟩), .int .i64 hh] W fun e w' => e = .returned (.int .i64 hn) ∧ Hid (Below (w.heap.size + 1) ((w.setCell ⟨ps, 4, none⟩ (.int .i64 0)).alloc (mvB 5 A B Cc hh gg vv dv)) w') ∧ LimbS ps ph w.heap.size 5 A B Cc hh gg vv dv vH w') := hide (fun W hW => (H30 W (unhide hW)).mono fun e w' ⟨q1, q2⟩ => ⟨q1, hide (hOn W w' (unhide hW) q2.below), hL w' (hOn W w' (unhide hW) q2.below)⟩)
  have H33' : Hid (∀ W, Hid (Below (w.heap.size + 1) ((w.setCell ⟨ps, 4, none⟩ (.int .i64 0)).alloc (mvB 5 A B Cc hh gg vv dv)) W) → Calls Tryz.prog 33 #[.pointer (some ⟨ps, 0, none⟩), .int .i64 hn] W fun e w' => e = .returned (.int .i64 hv) ∧ Hid (Below (w.heap.size + 1) ((w.setCell ⟨ps, 4, none⟩ (.int .i64 0)).alloc (mvB 5 A B Cc hh gg vv dv)) w') ∧ LimbS ps ph w.heap.size 5 A B Cc hh gg vv dv vH w') := hide (fun W hW => (H33 W (unhide hW)).mono fun e w' ⟨q1, q2⟩ => ⟨q1, hide (hOn W w' (unhide hW) q2.below), hL w' (hOn W w' (unhide hW) q2.below)⟩)
  have HR' : Hid (∀ W, Hid (Below (w.heap.size + 1) ((w.setCell ⟨ps, 4, none⟩ (.int .i64 0)).alloc (mvB 5 A B Cc hh gg vv dv)) W) → R W) := hide (fun W hW => HR W (unhide hW))
  have hO0 : Hid (Below (w.heap.size + 1) ((w.setCell ⟨ps, 4, none⟩ (.int .i64 0)).alloc (mvB 5 A B Cc hh gg vv dv)) ((w.setCell ⟨ps, 4, none⟩ (.int .i64 0)).alloc (mvB 5 A B Cc hh gg vv dv))) := hide (Below.refl _ _)
  have t1 : decide (hv < 0) = true := decide_eq_true hneg
  clear H30 hOn hL hb hb1 hz0 hsz L0 c0 c2 c4 f4 HR H33
  unfold mvV
  unfold mvB at H30' hO0 a0 a1 H33' HR'
  go_enter Tryz.func12, Tryz.ntmps12
  go_wp2_with fail
  refine (unhide H30' _ hO0).mono ?_
  clear hO0 a0 a1
  rintro e w1 ⟨rfl, hO1, ⟨x0, x2, ⟨r0, r1, r2, r3, r4, r5, r6, r7⟩⟩⟩
  go_wp2_with fail
  refine (unhide H33' _ hO1).mono ?_
  rintro e w2 ⟨rfl, hO2, ⟨x0, x2, ⟨r0, r1, r2, r3, r4, r5, r6, r7⟩⟩⟩
  go_wp2_with fail
  go_ret
  exact ⟨rfl, unhide HR' _ hO2⟩

theorem step_drop {w : World} {ps ph : Nat} (A B Cc hh gg : Int) (vv : Nat) (dv vH : Value) (hod : dv.oneCell' = true) {hn : Int} (c0 : w.cell? ⟨ps, 0, none⟩ = some (.pointer (some ⟨ph, 0, none⟩))) (c2 : w.cell? ⟨ps, 2, none⟩ = some vH) (c4 : ∃ x, w.cell? ⟨ps, 4, none⟩ = some x) (f4 : w.frozen? ⟨ps, 4, none⟩ = false)
    (H30 : ∀ W, Below (w.heap.size + 1) ((w.setCell ⟨ps, 4, none⟩ (.int .i64 0)).alloc (mvB 5 A B Cc hh gg vv dv)) W → Calls Tryz.prog 30 #[.pointer (some ⟨ps, 0, none⟩), .int .i64 hh] W fun e w' => e = .returned (.int .i64 hn) ∧ Still W w')
    {hv : Int} (H33 : ∀ W, Below (w.heap.size + 1) ((w.setCell ⟨ps, 4, none⟩ (.int .i64 0)).alloc (mvB 5 A B Cc hh gg vv dv)) W → Calls Tryz.prog 33 #[.pointer (some ⟨ps, 0, none⟩), .int .i64 hn] W fun e w' => e = .returned (.int .i64 hv) ∧ Still W w' ) {m gH lh ch : Nat} {xH : Value} {G : World → Prop} (hvH : vH = .slice (some ⟨gH, 0, none⟩) lh ch) (hml : m < lh) (hlh : lh ≤ 1000000) (hhn : hn = (m : Nat) + 1) (cH : w.cell? ⟨gH, m, none⟩ = some xH) (fH : w.frozen? ⟨gH, m, none⟩ = false) (ngp : gH ≠ ps) (HC : ∀ W, Below (w.heap.size + 1) ((w.setCell ⟨ps, 4, none⟩ (.int .i64 0)).alloc (mvB 5 A B Cc hh gg vv dv)) W → Calls Tryz.prog 34 #[.pointer (some ⟨ph, 0, none⟩), .int .i64 hn] W fun e w' => e = .returned (.int .i64 0) ∧ w'.heap[ps]? = W.heap[ps]? ∧ w'.heap[w.heap.size]? = W.heap[w.heap.size]? ∧ w'.heap[gH]? = W.heap[gH]? ∧ G w' ) {R : World → Prop} (hneg : 0 ≤ hv) (HR : ∀ w5, G w5 → ∀ W, Still (w5.setCell ⟨gH, m, none⟩ (.int .i64 (-1))) W → R W) :
    Calls Tryz.prog 12 #[.pointer (some ⟨ps, 0, none⟩), mvV 5 A B Cc hh gg vv dv] w fun e w' => e = .returned (.bool true) ∧ R w' := by
  have hpl : ps < w.heap.size := block_lt_of_cell c0
  have hb : Below w.heap.size w (w.alloc (mvB 5 A B Cc hh gg vv dv)) := (Below.refl _ _).alloc (Nat.le_refl _) _
  have hz0 : (w.setCell ⟨ps, 4, none⟩ (.int .i64 0)).heap.size = w.heap.size := World.size_setCell _ _ _
  have hsz : ((w.setCell ⟨ps, 4, none⟩ (.int .i64 0)).alloc (mvB 5 A B Cc hh gg vv dv)).heap.size = w.heap.size + 1 := by simp
  have hb1 : Below w.heap.size (w.setCell ⟨ps, 4, none⟩ (.int .i64 0)) ((w.setCell ⟨ps, 4, none⟩ (.int .i64 0)).alloc (mvB 5 A B Cc hh gg vv dv)) := by rw [← hz0]; exact (Below.refl _ _).alloc (Nat.le_refl _) _
  have L0 : LimbS ps ph w.heap.size 5 A B Cc hh gg vv dv vH ((w.setCell ⟨ps, 4, none⟩ (.int .i64 0)).alloc (mvB 5 A B Cc hh gg vv dv)) := by
    refine ⟨?_, ?_, ?_⟩
    · rw [hb1.cell (p := ⟨ps, 0, none⟩) hpl, World.cell?_setCell_other _ _ _ _ (by simp)]; exact c0
    · rw [hb1.cell (p := ⟨ps, 2, none⟩) hpl, World.cell?_setCell_other _ _ _ _ (by simp)]; exact c2
    · have := Boxed.new (w.setCell ⟨ps, 4, none⟩ (.int .i64 0)) 5 A B Cc hh gg vv dv
      rw [hz0] at this
      exact this
  have hL : ∀ W, Below (w.heap.size + 1) ((w.setCell ⟨ps, 4, none⟩ (.int .i64 0)).alloc (mvB 5 A B Cc hh gg vv dv)) W → LimbS ps ph w.heap.size 5 A B Cc hh gg vv dv vH W := fun W k => L0.like (k.block ps (by omega)) (k.block w.heap.size (by omega))
  have hOn : ∀ W w', Below (w.heap.size + 1) ((w.setCell ⟨ps, 4, none⟩ (.int .i64 0)).alloc (mvB 5 A B Cc hh gg vv dv)) W → Below W.heap.size W w' → Below (w.heap.size + 1) ((w.setCell ⟨ps, 4, none⟩ (.int .i64 0)).alloc (mvB 5 A B Cc hh gg vv dv)) w' := fun W w' k q => k.trans (q.mono (by have := k.size; rw [hsz] at this; exact this))
  obtain ⟨x4, c4⟩ := c4
  have a0 := (hb.cell (p := ⟨ps, 4, none⟩) hpl).trans c4
  have a1 : (w.alloc (mvB 5 A B Cc hh gg vv dv)).frozen? ⟨ps, 4, none⟩ = false := by rw [← f4]; simp only [World.frozen?, hb.block ps hpl]
  have H30' : Hid (∀ W, Hid (Below (w.heap.size + 1) ((w.setCell ⟨ps, 4, none⟩ (.int .i64 0)).alloc (mvB 5 A B Cc hh gg vv dv)) W) → Calls Tryz.prog 30 #[.pointer (some ⟨ps, 0, none⟩), .int .i64 hh] W fun e w' => e = .returned (.int .i64 hn) ∧ Hid (Below (w.heap.size + 1) ((w.setCell ⟨ps, 4, none⟩ (.int .i64 0)).alloc (mvB 5 A B Cc hh gg vv dv)) w') ∧ LimbS ps ph w.heap.size 5 A B Cc hh gg vv dv vH w') := hide (fun W hW => (H30 W (unhide hW)).mono fun e w' ⟨q1, q2⟩ => ⟨q1, hide (hOn W w' (unhide hW) q2.below), hL w' (hOn W w' (unhide hW) q2.below)⟩)
  have H33' : Hid (∀ W, Hid (Below (w.heap.size + 1) ((w.setCell ⟨ps, 4, none⟩ (.int .i64 0)).alloc (mvB 5 A B Cc hh gg vv dv)) W) → Calls Tryz.prog 33 #[.pointer (some ⟨ps, 0, none⟩), .int .i64 hn] W fun e w' => e = .returned (.int .i64 hv) ∧ Hid (Below (w.heap.size + 1) ((w.setCell ⟨ps, 4, none⟩ (.int .i64 0)).alloc (mvB 5 A B Cc hh gg vv dv)) w') ∧ LimbS ps ph w.heap.size 5 A B Cc hh gg vv dv vH w') := hide (fun W hW => (H33 W (unhide hW)).mono fun e w' ⟨q1, q2⟩ => ⟨q1, hide (hOn W w' (unhide hW) q2.below), hL w' (hOn W w' (unhide hW) q2.below)⟩)
  have hgl : gH < w.heap.size := block_lt_of_cell cH
  have HC' : Hid (∀ W, Hid (Below (w.heap.size + 1) ((w.setCell ⟨ps, 4, none⟩ (.int .i64 0)).alloc (mvB 5 A B Cc hh gg vv dv)) W) → Calls Tryz.prog 34 #[.pointer (some ⟨ph, 0, none⟩), .int .i64 hn] W fun e w' => e = .returned (.int .i64 0) ∧ LimbS ps ph w.heap.size 5 A B Cc hh gg vv dv vH w' ∧ w'.cell? ⟨gH, m, none⟩ = some xH ∧ w'.frozen? ⟨gH, m, none⟩ = false ∧ Hid (G w') ) := hide (fun W hW => (HC W (unhide hW)).mono fun e w' ⟨q1, q2, q3, q5, q4⟩ => by
    have hl := (hL W (unhide hW)).like q2 q3
    have e1 : w'.heap[gH]? = w.heap[gH]? := q5.trans (((unhide hW).block gH (by omega)).trans ((hb1.block gH hgl).trans (setCell_else _ _ _ _ _ ngp)))
    exact ⟨q1, hl, by rw [← cH]; simp only [World.cell?, e1], by rw [← fH]; simp only [World.frozen?, e1], hide q4⟩)
  have HR' := hide HR
  have ngb : gH ≠ w.heap.size := Nat.ne_of_lt hgl
  have HVH := hide hvH
  have HHN := hide hhn
  have hO0 : Hid (Below (w.heap.size + 1) ((w.setCell ⟨ps, 4, none⟩ (.int .i64 0)).alloc (mvB 5 A B Cc hh gg vv dv)) ((w.setCell ⟨ps, 4, none⟩ (.int .i64 0)).alloc (mvB 5 A B Cc hh gg vv dv))) := hide (Below.refl _ _)
  have t1 : decide (hv < 0) = false := decide_eq_false (by omega)
  clear H30 hOn hL hb hb1 hz0 hsz L0 c0 c2 c4 f4 HR H33 HC cH fH hvH hhn
  unfold mvV
  unfold mvB at H30' hO0 a0 a1 H33' HC'
  go_enter Tryz.func12, Tryz.ntmps12
  go_wp2_with fail
  refine (unhide H30' _ hO0).mono ?_
  clear hO0 a0 a1
  rintro e w1 ⟨rfl, hO1, ⟨x0, x2, ⟨r0, r1, r2, r3, r4, r5, r6, r7⟩⟩⟩
  go_wp2_with fail
  refine (unhide H33' _ hO1).mono ?_
  rintro e w2 ⟨rfl, hO2, ⟨x0, x2, ⟨r0, r1, r2, r3, r4, r5, r6, r7⟩⟩⟩
  go_wp2_with fail
  refine (unhide HC' _ hO2).mono ?_
  rintro e w3 ⟨rfl, ⟨x0, x2, ⟨r0, r1, r2, r3, r4, r5, r6, r7⟩⟩, u1, u2, hG⟩
  obtain rfl := unhide HVH
  obtain rfl := unhide HHN
  have su : IntKind.i64.wrap ((m : Int) + 1 - 1) = (m : Int) := by rw [show (m : Int) + 1 - 1 = (m : Int) by omega]; exact wrap_small _ (by omega) (by omega)
  have i3 : (0 : Int) ≤ (m : Nat) := by omega
  have i4 : (m : Int) < (lh : Nat) := by omega
  go_wp2_with fail
  (try go_region)
  all_goals go_wp2_with fail
  all_goals go_ret
  all_goals exact ⟨rfl, unhide HR' _ (unhide hG) _ (by first | exact Still.refl _ | exact (Still.refl _).drew _)⟩
end Go.Proofs.YtidfllgaeiopjaaGreat
namespace Go.Proofs.YtidfllgaeiopjaaGreat
open Go.ChangeShapes Go.WideShapes Go.ChangeAt Go.RowKit
set_option linter.unusedVariables false
set_option linter.unusedSimpArgs false
set_option maxRecDepth 100000
set_option maxHeartbeats 1000000

theorem step_collect {w : World} {ps ph : Nat} (A B Cc hh gg : Int) (vv : Nat) (dv vH : Value) (hod : dv.oneCell' = true) {hn : Int} (c0 : w.cell? ⟨ps, 0, none⟩ = some (.pointer (some ⟨ph, 0, none⟩))) (c2 : w.cell? ⟨ps, 2, none⟩ = some vH) (c4 : ∃ x, w.cell? ⟨ps, 4, none⟩ = some x) (f4 : w.frozen? ⟨ps, 4, none⟩ = false)
    (H30 : ∀ W, Below (w.heap.size + 1) ((w.setCell ⟨ps, 4, none⟩ (.int .i64 0)).alloc (mvB 8 A B Cc hh gg vv dv)) W → Calls Tryz.prog 30 #[.pointer (some ⟨ps, 0, none⟩), .int .i64 hh] W fun e w' => e = .returned (.int .i64 hn) ∧ Still W w')
     {R : World → Prop} (HC : ∀ W, Below (w.heap.size + 1) ((w.setCell ⟨ps, 4, none⟩ (.int .i64 0)).alloc (mvB 8 A B Cc hh gg vv dv)) W → Calls Tryz.prog 14 #[.pointer (some ⟨ph, 0, none⟩)] W fun e w' => e = .returned (.tuple #[]) ∧ R w' ) :
    Calls Tryz.prog 12 #[.pointer (some ⟨ps, 0, none⟩), mvV 8 A B Cc hh gg vv dv] w fun e w' => e = .returned (.bool true) ∧ R w' := by
  have hpl : ps < w.heap.size := block_lt_of_cell c0
  have hb : Below w.heap.size w (w.alloc (mvB 8 A B Cc hh gg vv dv)) := (Below.refl _ _).alloc (Nat.le_refl _) _
  have hz0 : (w.setCell ⟨ps, 4, none⟩ (.int .i64 0)).heap.size = w.heap.size := World.size_setCell _ _ _
  have hsz : ((w.setCell ⟨ps, 4, none⟩ (.int .i64 0)).alloc (mvB 8 A B Cc hh gg vv dv)).heap.size = w.heap.size + 1 := by simp
  have hb1 : Below w.heap.size (w.setCell ⟨ps, 4, none⟩ (.int .i64 0)) ((w.setCell ⟨ps, 4, none⟩ (.int .i64 0)).alloc (mvB 8 A B Cc hh gg vv dv)) := by rw [← hz0]; exact (Below.refl _ _).alloc (Nat.le_refl _) _
  have L0 : LimbS ps ph w.heap.size 8 A B Cc hh gg vv dv vH ((w.setCell ⟨ps, 4, none⟩ (.int .i64 0)).alloc (mvB 8 A B Cc hh gg vv dv)) := by
    refine ⟨?_, ?_, ?_⟩
    · rw [hb1.cell (p := ⟨ps, 0, none⟩) hpl, World.cell?_setCell_other _ _ _ _ (by simp)]; exact c0
    · rw [hb1.cell (p := ⟨ps, 2, none⟩) hpl, World.cell?_setCell_other _ _ _ _ (by simp)]; exact c2
    · have := Boxed.new (w.setCell ⟨ps, 4, none⟩ (.int .i64 0)) 8 A B Cc hh gg vv dv
      rw [hz0] at this
      exact this
  have hL : ∀ W, Below (w.heap.size + 1) ((w.setCell ⟨ps, 4, none⟩ (.int .i64 0)).alloc (mvB 8 A B Cc hh gg vv dv)) W → LimbS ps ph w.heap.size 8 A B Cc hh gg vv dv vH W := fun W k => L0.like (k.block ps (by omega)) (k.block w.heap.size (by omega))
  have hOn : ∀ W w', Below (w.heap.size + 1) ((w.setCell ⟨ps, 4, none⟩ (.int .i64 0)).alloc (mvB 8 A B Cc hh gg vv dv)) W → Below W.heap.size W w' → Below (w.heap.size + 1) ((w.setCell ⟨ps, 4, none⟩ (.int .i64 0)).alloc (mvB 8 A B Cc hh gg vv dv)) w' := fun W w' k q => k.trans (q.mono (by have := k.size; rw [hsz] at this; exact this))
  obtain ⟨x4, c4⟩ := c4
  have a0 := (hb.cell (p := ⟨ps, 4, none⟩) hpl).trans c4
  have a1 : (w.alloc (mvB 8 A B Cc hh gg vv dv)).frozen? ⟨ps, 4, none⟩ = false := by rw [← f4]; simp only [World.frozen?, hb.block ps hpl]
  have H30' : Hid (∀ W, Hid (Below (w.heap.size + 1) ((w.setCell ⟨ps, 4, none⟩ (.int .i64 0)).alloc (mvB 8 A B Cc hh gg vv dv)) W) → Calls Tryz.prog 30 #[.pointer (some ⟨ps, 0, none⟩), .int .i64 hh] W fun e w' => e = .returned (.int .i64 hn) ∧ Hid (Below (w.heap.size + 1) ((w.setCell ⟨ps, 4, none⟩ (.int .i64 0)).alloc (mvB 8 A B Cc hh gg vv dv)) w') ∧ LimbS ps ph w.heap.size 8 A B Cc hh gg vv dv vH w') := hide (fun W hW => (H30 W (unhide hW)).mono fun e w' ⟨q1, q2⟩ => ⟨q1, hide (hOn W w' (unhide hW) q2.below), hL w' (hOn W w' (unhide hW) q2.below)⟩)
  have HC' : Hid (∀ W, Hid (Below (w.heap.size + 1) ((w.setCell ⟨ps, 4, none⟩ (.int .i64 0)).alloc (mvB 8 A B Cc hh gg vv dv)) W) → Calls Tryz.prog 14 #[.pointer (some ⟨ph, 0, none⟩)] W fun e w' => e = .returned (.tuple #[]) ∧ R w' ) := hide (fun W hW => HC W (unhide hW))
  have hO0 : Hid (Below (w.heap.size + 1) ((w.setCell ⟨ps, 4, none⟩ (.int .i64 0)).alloc (mvB 8 A B Cc hh gg vv dv)) ((w.setCell ⟨ps, 4, none⟩ (.int .i64 0)).alloc (mvB 8 A B Cc hh gg vv dv))) := hide (Below.refl _ _)
  clear H30 hOn hL hb hb1 hz0 hsz L0 c0 c2 c4 f4 HC
  unfold mvV
  unfold mvB at H30' hO0 a0 a1 HC'
  go_enter Tryz.func12, Tryz.ntmps12
  go_wp2_with fail
  refine (unhide H30' _ hO0).mono ?_
  clear hO0 a0 a1
  rintro e w1 ⟨rfl, hO1, ⟨x0, x2, ⟨r0, r1, r2, r3, r4, r5, r6, r7⟩⟩⟩
  go_wp2_with fail
  refine (unhide HC' _ hO1).mono ?_
  rintro e w2 ⟨rfl, hR⟩
  go_wp2_with fail
  go_ret
  exact ⟨rfl, hR⟩

theorem step_resize {w : World} {ps ph : Nat} (A B Cc hh gg : Int) (vv : Nat) (dv vH : Value) (hod : dv.oneCell' = true) {hn : Int} (c0 : w.cell? ⟨ps, 0, none⟩ = some (.pointer (some ⟨ph, 0, none⟩))) (c2 : w.cell? ⟨ps, 2, none⟩ = some vH) (c4 : ∃ x, w.cell? ⟨ps, 4, none⟩ = some x) (f4 : w.frozen? ⟨ps, 4, none⟩ = false)
    (H30 : ∀ W, Below (w.heap.size + 1) ((w.setCell ⟨ps, 4, none⟩ (.int .i64 0)).alloc (mvB 9 A B Cc hh gg vv dv)) W → Calls Tryz.prog 30 #[.pointer (some ⟨ps, 0, none⟩), .int .i64 hh] W fun e w' => e = .returned (.int .i64 hn) ∧ Still W w')
    {G : Nat → World → Prop} {R : World → Prop} (HC : ∀ W, Below (w.heap.size + 1) ((w.setCell ⟨ps, 4, none⟩ (.int .i64 0)).alloc (mvB 9 A B Cc hh gg vv dv)) W → Calls Tryz.prog 18 #[.pointer (some ⟨ph, 0, none⟩), .int .i64 A] W fun e w' => ∃ c : Nat, e = .returned (.int .i64 (c : Nat)) ∧ w'.heap[ps]? = W.heap[ps]? ∧ w'.heap[w.heap.size]? = W.heap[w.heap.size]? ∧ G c w' ) (HR : ∀ c w5, G c w5 → ∀ W, Still (w5.setCell ⟨ps, 4, none⟩ (.int .i64 (c : Nat))) W → R W) :
    Calls Tryz.prog 12 #[.pointer (some ⟨ps, 0, none⟩), mvV 9 A B Cc hh gg vv dv] w fun e w' => e = .returned (.bool true) ∧ R w' := by
  have hpl : ps < w.heap.size := block_lt_of_cell c0
  have hb : Below w.heap.size w (w.alloc (mvB 9 A B Cc hh gg vv dv)) := (Below.refl _ _).alloc (Nat.le_refl _) _
  have hz0 : (w.setCell ⟨ps, 4, none⟩ (.int .i64 0)).heap.size = w.heap.size := World.size_setCell _ _ _
  have hsz : ((w.setCell ⟨ps, 4, none⟩ (.int .i64 0)).alloc (mvB 9 A B Cc hh gg vv dv)).heap.size = w.heap.size + 1 := by simp
  have hb1 : Below w.heap.size (w.setCell ⟨ps, 4, none⟩ (.int .i64 0)) ((w.setCell ⟨ps, 4, none⟩ (.int .i64 0)).alloc (mvB 9 A B Cc hh gg vv dv)) := by rw [← hz0]; exact (Below.refl _ _).alloc (Nat.le_refl _) _
  have L0 : LimbS ps ph w.heap.size 9 A B Cc hh gg vv dv vH ((w.setCell ⟨ps, 4, none⟩ (.int .i64 0)).alloc (mvB 9 A B Cc hh gg vv dv)) := by
    refine ⟨?_, ?_, ?_⟩
    · rw [hb1.cell (p := ⟨ps, 0, none⟩) hpl, World.cell?_setCell_other _ _ _ _ (by simp)]; exact c0
    · rw [hb1.cell (p := ⟨ps, 2, none⟩) hpl, World.cell?_setCell_other _ _ _ _ (by simp)]; exact c2
    · have := Boxed.new (w.setCell ⟨ps, 4, none⟩ (.int .i64 0)) 9 A B Cc hh gg vv dv
      rw [hz0] at this
      exact this
  have hL : ∀ W, Below (w.heap.size + 1) ((w.setCell ⟨ps, 4, none⟩ (.int .i64 0)).alloc (mvB 9 A B Cc hh gg vv dv)) W → LimbS ps ph w.heap.size 9 A B Cc hh gg vv dv vH W := fun W k => L0.like (k.block ps (by omega)) (k.block w.heap.size (by omega))
  have hOn : ∀ W w', Below (w.heap.size + 1) ((w.setCell ⟨ps, 4, none⟩ (.int .i64 0)).alloc (mvB 9 A B Cc hh gg vv dv)) W → Below W.heap.size W w' → Below (w.heap.size + 1) ((w.setCell ⟨ps, 4, none⟩ (.int .i64 0)).alloc (mvB 9 A B Cc hh gg vv dv)) w' := fun W w' k q => k.trans (q.mono (by have := k.size; rw [hsz] at this; exact this))
  obtain ⟨x4, c4⟩ := c4
  have a0 := (hb.cell (p := ⟨ps, 4, none⟩) hpl).trans c4
  have a1 : (w.alloc (mvB 9 A B Cc hh gg vv dv)).frozen? ⟨ps, 4, none⟩ = false := by rw [← f4]; simp only [World.frozen?, hb.block ps hpl]
  have H30' : Hid (∀ W, Hid (Below (w.heap.size + 1) ((w.setCell ⟨ps, 4, none⟩ (.int .i64 0)).alloc (mvB 9 A B Cc hh gg vv dv)) W) → Calls Tryz.prog 30 #[.pointer (some ⟨ps, 0, none⟩), .int .i64 hh] W fun e w' => e = .returned (.int .i64 hn) ∧ Hid (Below (w.heap.size + 1) ((w.setCell ⟨ps, 4, none⟩ (.int .i64 0)).alloc (mvB 9 A B Cc hh gg vv dv)) w') ∧ LimbS ps ph w.heap.size 9 A B Cc hh gg vv dv vH w') := hide (fun W hW => (H30 W (unhide hW)).mono fun e w' ⟨q1, q2⟩ => ⟨q1, hide (hOn W w' (unhide hW) q2.below), hL w' (hOn W w' (unhide hW) q2.below)⟩)
  have L4 : ((w.setCell ⟨ps, 4, none⟩ (.int .i64 0)).alloc (mvB 9 A B Cc hh gg vv dv)).cell? ⟨ps, 4, none⟩ = some (.int .i64 0) := (hb1.cell (p := ⟨ps, 4, none⟩) hpl).trans (World.cell?_setCell_same' _ _ _ (by rw [c4]; rfl))
  have F4 : ((w.setCell ⟨ps, 4, none⟩ (.int .i64 0)).alloc (mvB 9 A B Cc hh gg vv dv)).frozen? ⟨ps, 4, none⟩ = false := by
    have e : ((w.setCell ⟨ps, 4, none⟩ (.int .i64 0)).alloc (mvB 9 A B Cc hh gg vv dv)).frozen? ⟨ps, 4, none⟩ = (w.setCell ⟨ps, 4, none⟩ (.int .i64 0)).frozen? ⟨ps, 4, none⟩ := by simp only [World.frozen?, hb1.block ps hpl]
    rw [e, World.frozen?_setCell]; exact f4
  have HC' : Hid (∀ W, Hid (Below (w.heap.size + 1) ((w.setCell ⟨ps, 4, none⟩ (.int .i64 0)).alloc (mvB 9 A B Cc hh gg vv dv)) W) → Calls Tryz.prog 18 #[.pointer (some ⟨ph, 0, none⟩), .int .i64 A] W fun e w' => ∃ c : Nat, e = .returned (.int .i64 (c : Nat)) ∧ w'.cell? ⟨ps, 0, none⟩ = some (.pointer (some ⟨ph, 0, none⟩)) ∧ w'.cell? ⟨w.heap.size, 1, none⟩ = some (.int .i64 A) ∧ w'.cell? ⟨ps, 4, none⟩ = some (.int .i64 0) ∧ w'.frozen? ⟨ps, 4, none⟩ = false ∧ Hid (G c w') ) := hide (fun W hW => (HC W (unhide hW)).mono fun e w' ⟨c, q1, q2, q3, q4⟩ => by
    have hl := (hL W (unhide hW)).like q2 q3
    have e4 : w'.heap[ps]? = ((w.setCell ⟨ps, 4, none⟩ (.int .i64 0)).alloc (mvB 9 A B Cc hh gg vv dv)).heap[ps]? := q2.trans ((unhide hW).block ps (by omega))
    exact ⟨c, q1, hl.c0, hl.bx.m1, by rw [← L4]; simp only [World.cell?, e4], by rw [← F4]; simp only [World.frozen?, e4], hide q4⟩)
  have HR' := hide HR
  have hO0 : Hid (Below (w.heap.size + 1) ((w.setCell ⟨ps, 4, none⟩ (.int .i64 0)).alloc (mvB 9 A B Cc hh gg vv dv)) ((w.setCell ⟨ps, 4, none⟩ (.int .i64 0)).alloc (mvB 9 A B Cc hh gg vv dv))) := hide (Below.refl _ _)
  clear H30 hOn hL hb hb1 hz0 hsz L0 c0 c2 c4 f4 HC HR L4 F4
  unfold mvV
  unfold mvB at H30' hO0 a0 a1 HC'
  go_enter Tryz.func12, Tryz.ntmps12
  go_wp2_with fail
  refine (unhide H30' _ hO0).mono ?_
  clear hO0 a0 a1
  rintro e w1 ⟨rfl, hO1, ⟨x0, x2, ⟨r0, r1, r2, r3, r4, r5, r6, r7⟩⟩⟩
  generalize hB : w.heap.size = b at *
  go_wp2_with fail
  go_region_held3 (fun w' => w'.cell? ⟨ps, 0, none⟩ = some (.pointer (some ⟨ph, 0, none⟩)) ∧ w'.cell? ⟨b, 1, none⟩ = some (.int .i64 A)) (first | (exact ⟨(World.cell?_setCell_other _ _ _ _ (by simp)).trans y0, (World.cell?_setCell_other _ _ _ _ (by simp)).trans y1⟩) | go_keep) (first | (go_at_call 18; refine (unhide HC' _ (hide (unhide hO1).drew)).mono ?_; rintro e w2 ⟨c, rfl, y0, y1, y4, yf, hG⟩))
  go_wp2_with fail
  go_ret
  exact ⟨rfl, unhide HR' c _ (unhide hG) _ (Still.refl _)⟩

theorem step_other {w : World} {ps ph : Nat} (dd A B Cc hh gg : Int) (vv : Nat) (dv vH : Value) (hod : dv.oneCell' = true) {hn : Int} (c0 : w.cell? ⟨ps, 0, none⟩ = some (.pointer (some ⟨ph, 0, none⟩))) (c2 : w.cell? ⟨ps, 2, none⟩ = some vH) (c4 : ∃ x, w.cell? ⟨ps, 4, none⟩ = some x) (f4 : w.frozen? ⟨ps, 4, none⟩ = false)
    (H30 : ∀ W, Below (w.heap.size + 1) ((w.setCell ⟨ps, 4, none⟩ (.int .i64 0)).alloc (mvB dd A B Cc hh gg vv dv)) W → Calls Tryz.prog 30 #[.pointer (some ⟨ps, 0, none⟩), .int .i64 hh] W fun e w' => e = .returned (.int .i64 hn) ∧ Still W w')
     {R : World → Prop} (hdo : dd < 1 ∨ 9 < dd) (HR : ∀ W, Below (w.heap.size + 1) ((w.setCell ⟨ps, 4, none⟩ (.int .i64 0)).alloc (mvB dd A B Cc hh gg vv dv)) W → R W) :
    Calls Tryz.prog 12 #[.pointer (some ⟨ps, 0, none⟩), mvV dd A B Cc hh gg vv dv] w fun e w' => e = .returned (.bool true) ∧ R w' := by
  have hpl : ps < w.heap.size := block_lt_of_cell c0
  have hb : Below w.heap.size w (w.alloc (mvB dd A B Cc hh gg vv dv)) := (Below.refl _ _).alloc (Nat.le_refl _) _
  have hz0 : (w.setCell ⟨ps, 4, none⟩ (.int .i64 0)).heap.size = w.heap.size := World.size_setCell _ _ _
  have hsz : ((w.setCell ⟨ps, 4, none⟩ (.int .i64 0)).alloc (mvB dd A B Cc hh gg vv dv)).heap.size = w.heap.size + 1 := by simp
  have hb1 : Below w.heap.size (w.setCell ⟨ps, 4, none⟩ (.int .i64 0)) ((w.setCell ⟨ps, 4, none⟩ (.int .i64 0)).alloc (mvB dd A B Cc hh gg vv dv)) := by rw [← hz0]; exact (Below.refl _ _).alloc (Nat.le_refl _) _
  have L0 : LimbS ps ph w.heap.size dd A B Cc hh gg vv dv vH ((w.setCell ⟨ps, 4, none⟩ (.int .i64 0)).alloc (mvB dd A B Cc hh gg vv dv)) := by
    refine ⟨?_, ?_, ?_⟩
    · rw [hb1.cell (p := ⟨ps, 0, none⟩) hpl, World.cell?_setCell_other _ _ _ _ (by simp)]; exact c0
    · rw [hb1.cell (p := ⟨ps, 2, none⟩) hpl, World.cell?_setCell_other _ _ _ _ (by simp)]; exact c2
    · have := Boxed.new (w.setCell ⟨ps, 4, none⟩ (.int .i64 0)) dd A B Cc hh gg vv dv
      rw [hz0] at this
      exact this
  have hL : ∀ W, Below (w.heap.size + 1) ((w.setCell ⟨ps, 4, none⟩ (.int .i64 0)).alloc (mvB dd A B Cc hh gg vv dv)) W → LimbS ps ph w.heap.size dd A B Cc hh gg vv dv vH W := fun W k => L0.like (k.block ps (by omega)) (k.block w.heap.size (by omega))
  have hOn : ∀ W w', Below (w.heap.size + 1) ((w.setCell ⟨ps, 4, none⟩ (.int .i64 0)).alloc (mvB dd A B Cc hh gg vv dv)) W → Below W.heap.size W w' → Below (w.heap.size + 1) ((w.setCell ⟨ps, 4, none⟩ (.int .i64 0)).alloc (mvB dd A B Cc hh gg vv dv)) w' := fun W w' k q => k.trans (q.mono (by have := k.size; rw [hsz] at this; exact this))
  obtain ⟨x4, c4⟩ := c4
  have a0 := (hb.cell (p := ⟨ps, 4, none⟩) hpl).trans c4
  have a1 : (w.alloc (mvB dd A B Cc hh gg vv dv)).frozen? ⟨ps, 4, none⟩ = false := by rw [← f4]; simp only [World.frozen?, hb.block ps hpl]
  have H30' : Hid (∀ W, Hid (Below (w.heap.size + 1) ((w.setCell ⟨ps, 4, none⟩ (.int .i64 0)).alloc (mvB dd A B Cc hh gg vv dv)) W) → Calls Tryz.prog 30 #[.pointer (some ⟨ps, 0, none⟩), .int .i64 hh] W fun e w' => e = .returned (.int .i64 hn) ∧ Hid (Below (w.heap.size + 1) ((w.setCell ⟨ps, 4, none⟩ (.int .i64 0)).alloc (mvB dd A B Cc hh gg vv dv)) w') ∧ LimbS ps ph w.heap.size dd A B Cc hh gg vv dv vH w') := hide (fun W hW => (H30 W (unhide hW)).mono fun e w' ⟨q1, q2⟩ => ⟨q1, hide (hOn W w' (unhide hW) q2.below), hL w' (hOn W w' (unhide hW) q2.below)⟩)
  have HR' : Hid (∀ W, Hid (Below (w.heap.size + 1) ((w.setCell ⟨ps, 4, none⟩ (.int .i64 0)).alloc (mvB dd A B Cc hh gg vv dv)) W) → R W) := hide (fun W hW => HR W (unhide hW))
  have hO0 : Hid (Below (w.heap.size + 1) ((w.setCell ⟨ps, 4, none⟩ (.int .i64 0)).alloc (mvB dd A B Cc hh gg vv dv)) ((w.setCell ⟨ps, 4, none⟩ (.int .i64 0)).alloc (mvB dd A B Cc hh gg vv dv))) := hide (Below.refl _ _)
  have t1 : decide (dd = 1) = false := decide_eq_false (by omega)
  have t2 : decide (dd = 2) = false := decide_eq_false (by omega)
  have t3 : decide (dd = 3) = false := decide_eq_false (by omega)
  have t4 : decide (dd = 4) = false := decide_eq_false (by omega)
  have t5 : decide (dd = 5) = false := decide_eq_false (by omega)
  have t6 : decide (dd = 6) = false := decide_eq_false (by omega)
  have t7 : decide (dd = 7) = false := decide_eq_false (by omega)
  have t8 : decide (dd = 8) = false := decide_eq_false (by omega)
  have t9 : decide (dd = 9) = false := decide_eq_false (by omega)
  clear H30 hOn hL hb hb1 hz0 hsz L0 c0 c2 c4 f4 HR
  unfold mvV
  unfold mvB at H30' hO0 a0 a1 HR'
  go_enter Tryz.func12, Tryz.ntmps12
  go_wp2_with fail
  refine (unhide H30' _ hO0).mono ?_
  clear hO0 a0 a1
  rintro e w1 ⟨rfl, hO1, ⟨x0, x2, ⟨r0, r1, r2, r3, r4, r5, r6, r7⟩⟩⟩
  go_wp2_with fail
  go_ret
  exact ⟨rfl, unhide HR' _ hO1⟩
end Go.Proofs.YtidfllgaeiopjaaGreat
