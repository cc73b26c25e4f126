/- changes, over the heap and its shadow. -/
import Derived.Test.YtidfllgaeiopjaaGreatWrB
namespace Go.Proofs.YtidfllgaeiopjaaGreat
open Go.ChangeShapes Go.WideShapes Go.ChangeAt Go.RowKit
set_option linter.unusedVariables false
set_option linter.unusedSimpArgs false
set_option maxRecDepth 100000
set_option maxHeartbeats 1000000


theorem changes_none {w : World} {ps : Nat} (dd A B Cc hh gg : Int) (vv : Nat) (dv : Value) {hn id : Int} (hid : id < 1) {R : World → Prop}
    (H30 : ∀ W, Below (w.heap.size + 1) (w.alloc (mvB dd A B Cc hh gg vv dv)) W → Calls Tryz.prog 30 #[.pointer (some ⟨ps, 0, none⟩), .int .i64 hh] W fun e w' => e = .returned (.int .i64 hn) ∧ Still W w')
    (H33 : ∀ W, Below (w.heap.size + 1) (w.alloc (mvB dd A B Cc hh gg vv dv)) W → Calls Tryz.prog 33 #[.pointer (some ⟨ps, 0, none⟩), .int .i64 hn] W fun e w' => e = .returned (.int .i64 id) ∧ Still W w') (HR : ∀ W, Below w.heap.size w W → R W) :
    Calls Tryz.prog 32 #[.pointer (some ⟨ps, 0, none⟩), mvV dd A B Cc hh gg vv dv] w fun e w' => e = .returned (.bool true) ∧ R w' := by
  have hb : Below w.heap.size w (w.alloc (mvB dd A B Cc hh gg vv dv)) := (Below.refl _ _).alloc (Nat.le_refl _) _
  have hsz : (w.alloc (mvB dd A B Cc hh gg vv dv)).heap.size = w.heap.size + 1 := by simp
  have hOn : ∀ W w', Below (w.heap.size + 1) (w.alloc (mvB dd A B Cc hh gg vv dv)) W → Still W w' → Below (w.heap.size + 1) (w.alloc (mvB dd A B Cc hh gg vv dv)) w' := fun W w' k q => k.trans (q.below.mono (by have := k.size; rw [hsz] at this; exact this))
  have y4 := (Boxed.new w dd A B Cc hh gg vv dv).m4
  have H30' : Hid (∀ W, Hid (Below (w.heap.size + 1) (w.alloc (mvB dd A B Cc hh gg vv dv)) W) → Calls Tryz.prog 30 #[.pointer (some ⟨ps, 0, none⟩), .int .i64 hh] W fun e w' => e = .returned (.int .i64 hn) ∧ Hid (Below (w.heap.size + 1) (w.alloc (mvB dd A B Cc hh gg vv dv)) w')) := hide (fun W hW => (H30 W (unhide hW)).mono fun e w' ⟨q1, q2⟩ => ⟨q1, hide (hOn W w' (unhide hW) q2)⟩)
  have H33' : Hid (∀ W, Hid (Below (w.heap.size + 1) (w.alloc (mvB dd A B Cc hh gg vv dv)) W) → Calls Tryz.prog 33 #[.pointer (some ⟨ps, 0, none⟩), .int .i64 hn] W fun e w' => e = .returned (.int .i64 id) ∧ Hid (Below (w.heap.size + 1) (w.alloc (mvB dd A B Cc hh gg vv dv)) w')) := hide (fun W hW => (H33 W (unhide hW)).mono fun e w' ⟨q1, q2⟩ => ⟨q1, hide (hOn W w' (unhide hW) q2)⟩)
  have HR' : Hid (∀ W, Hid (Below (w.heap.size + 1) (w.alloc (mvB dd A B Cc hh gg vv dv)) W) → R W) := hide (fun W k => HR W (hb.trans ((unhide k).mono (by omega))))
  have hO0 : Hid (Below (w.heap.size + 1) (w.alloc (mvB dd A B Cc hh gg vv dv)) (w.alloc (mvB dd A B Cc hh gg vv dv))) := hide (Below.refl _ _)
  have d1 : decide (id < 1) = true := decide_eq_true hid
  clear H30 H33 hOn hb hsz HR
  unfold mvV
  unfold mvB at H30' H33' HR' hO0 y4
  generalize hW : World.alloc w _ = W0 at *
  generalize hB : w.heap.size = b at *
  go_enter Tryz.func32, Tryz.ntmps32
  go_wp2_with fail
  (try rw [hW]); (try rw [hB])
  refine (unhide H30' _ hO0).mono ?_
  rintro e w1 ⟨rfl, hO1⟩
  go_wp2_with fail
  refine (unhide H33' _ hO1).mono ?_
  rintro e w2 ⟨rfl, hO2⟩
  go_wp2_with fail
  go_ret
  exact ⟨rfl, unhide HR' _ hO2⟩

theorem changes_write {w : World} {ps ph : Nat} (A B Cc hh gg : Int) (vv : Nat) (dv : Value) {hn : Int} {gN nN cN lr lw i ref : Nat} {ar aw : Option Addr} {cr cw : Nat} (c0 : w.cell? ⟨ps, 0, none⟩ = some (.pointer (some ⟨ph, 0, none⟩)))
    (c1 : w.cell? ⟨ps, 1, none⟩ = some (.slice (some ⟨gN, 0, none⟩) nN cN)) (hi : i < nN) (hi2 : nN ≤ 1000000) (h1 : 1 ≤ i)
    (n1 : w.cell? ⟨gN, i * 3 + 1, none⟩ = some (.slice ar lr cr)) (n2 : w.cell? ⟨gN, i * 3 + 2, none⟩ = some (.slice aw lw cw)) (hlr : lr ≤ 1048576) (hlw : lw ≤ 1048576)
    (H30 : ∀ W, Below (w.heap.size + 1) (w.alloc (mvB 4 A B Cc hh gg vv dv)) W → Calls Tryz.prog 30 #[.pointer (some ⟨ps, 0, none⟩), .int .i64 hh] W fun e w' => e = .returned (.int .i64 hn) ∧ Still W w')
    (H33 : ∀ W, Below (w.heap.size + 1) (w.alloc (mvB 4 A B Cc hh gg vv dv)) W → Calls Tryz.prog 33 #[.pointer (some ⟨ps, 0, none⟩), .int .i64 hn] W fun e w' => e = .returned (.int .i64 (i : Nat)) ∧ Still W w')
    (H28 : ∀ W, Below (w.heap.size + 1) (w.alloc (mvB 4 A B Cc hh gg vv dv)) W → Calls Tryz.prog 28 #[.pointer (some ⟨ph, 0, none⟩), .int .i64 hn] W fun e w' => e = .returned (.tuple #[.int .u64 (ref : Nat), .int .i64 0]) ∧ Below W.heap.size W w')
     {R : World → Prop} (hod : dv.oneCell' = true) (H60 : ∀ W, Below (w.heap.size + 1) (w.alloc (mvB 4 A B Cc hh gg vv dv)) W → Calls Tryz.prog 60 #[.pointer (some ⟨ps, 0, none⟩), .int .u64 (ref : Nat), .int .i64 (i : Nat), mvV 4 A B Cc hh gg vv dv] W fun e w' => e = .returned (.bool true) ∧ R w') :
    Calls Tryz.prog 32 #[.pointer (some ⟨ps, 0, none⟩), mvV 4 A B Cc hh gg vv dv] w fun e w' => e = .returned (.bool true) ∧ R w' := by
  have hpl := block_lt_of_cell c0
  have hgl := block_lt_of_cell n1
  have hb : Below w.heap.size w (w.alloc (mvB 4 A B Cc hh gg vv dv)) := (Below.refl _ _).alloc (Nat.le_refl _) _
  have hsz : (w.alloc (mvB 4 A B Cc hh gg vv dv)).heap.size = w.heap.size + 1 := by simp
  have bx := Boxed.new w 4 A B Cc hh gg vv dv
  have L0 : Limbs ps ph w.heap.size gN nN cN i 4 A hh gg vv (.slice ar lr cr) (.slice aw lw cw) (w.alloc (mvB 4 A B Cc hh gg vv dv)) := ⟨(hb.cell (p := ⟨ps, 0, none⟩) hpl).trans c0, (hb.cell (p := ⟨ps, 1, none⟩) hpl).trans c1, bx.m0, bx.m1, bx.m4, bx.m5, bx.m6, (hb.cell (p := ⟨gN, i * 3 + 1, none⟩) hgl).trans n1, (hb.cell (p := ⟨gN, i * 3 + 2, none⟩) hgl).trans n2⟩
  have hL : ∀ W, Below (w.heap.size + 1) (w.alloc (mvB 4 A B Cc hh gg vv dv)) W → Limbs ps ph w.heap.size gN nN cN i 4 A hh gg vv (.slice ar lr cr) (.slice aw lw cw) W := fun W k => L0.on (by rw [hsz]; exact k)
  have hOn : ∀ W w', Below (w.heap.size + 1) (w.alloc (mvB 4 A B Cc hh gg vv dv)) W → Below W.heap.size W w' → Below (w.heap.size + 1) (w.alloc (mvB 4 A B Cc hh gg vv dv)) w' := fun W w' k q => k.trans (q.mono (by have := k.size; rw [hsz] at this; exact this))
  have H30' : Hid (∀ W, Hid (Below (w.heap.size + 1) (w.alloc (mvB 4 A B Cc hh gg vv dv)) W) → Calls Tryz.prog 30 #[.pointer (some ⟨ps, 0, none⟩), .int .i64 hh] W fun e w' => e = .returned (.int .i64 hn) ∧ Hid (Below (w.heap.size + 1) (w.alloc (mvB 4 A B Cc hh gg vv dv)) w') ∧ Limbs ps ph w.heap.size gN nN cN i 4 A hh gg vv (.slice ar lr cr) (.slice aw lw cw) w') := hide (fun W hW => (H30 W (unhide hW)).mono fun e w' ⟨q1, q2⟩ => ⟨q1, hide (hOn W w' (unhide hW) q2.below), hL w' (hOn W w' (unhide hW) q2.below)⟩)
  have H33' : Hid (∀ W, Hid (Below (w.heap.size + 1) (w.alloc (mvB 4 A B Cc hh gg vv dv)) W) → Calls Tryz.prog 33 #[.pointer (some ⟨ps, 0, none⟩), .int .i64 hn] W fun e w' => e = .returned (.int .i64 (i : Nat)) ∧ Hid (Below (w.heap.size + 1) (w.alloc (mvB 4 A B Cc hh gg vv dv)) w') ∧ Limbs ps ph w.heap.size gN nN cN i 4 A hh gg vv (.slice ar lr cr) (.slice aw lw cw) w') := hide (fun W hW => (H33 W (unhide hW)).mono fun e w' ⟨q1, q2⟩ => ⟨q1, hide (hOn W w' (unhide hW) q2.below), hL w' (hOn W w' (unhide hW) q2.below)⟩)
  have H28' : Hid (∀ W, Hid (Below (w.heap.size + 1) (w.alloc (mvB 4 A B Cc hh gg vv dv)) W) → Calls Tryz.prog 28 #[.pointer (some ⟨ph, 0, none⟩), .int .i64 hn] W fun e w' => e = .returned (.tuple #[.int .u64 (ref : Nat), .int .i64 0]) ∧ Hid (Below (w.heap.size + 1) (w.alloc (mvB 4 A B Cc hh gg vv dv)) w') ∧ Limbs ps ph w.heap.size gN nN cN i 4 A hh gg vv (.slice ar lr cr) (.slice aw lw cw) w') := hide (fun W hW => (H28 W (unhide hW)).mono fun e w' ⟨q1, q2⟩ => ⟨q1, hide (hOn W w' (unhide hW) q2), hL w' (hOn W w' (unhide hW) q2)⟩)
  have H60' : Hid (∀ W, Hid (Below (w.heap.size + 1) (w.alloc (mvB 4 A B Cc hh gg vv dv)) W) → Calls Tryz.prog 60 #[.pointer (some ⟨ps, 0, none⟩), .int .u64 (ref : Nat), .int .i64 (i : Nat), mvV 4 A B Cc hh gg vv dv] W fun e w' => e = .returned (.bool true) ∧ R w') := hide (fun W hW => H60 W (unhide hW))
  have HBX : Hid (∀ W, Hid (Below (w.heap.size + 1) (w.alloc (mvB 4 A B Cc hh gg vv dv)) W) → Boxed W w.heap.size 4 A B Cc hh gg vv dv) := hide (fun W hW => bx.same ((unhide hW).block w.heap.size (by omega)))
  have HOD := hide hod
  have hO0 : Hid (Below (w.heap.size + 1) (w.alloc (mvB 4 A B Cc hh gg vv dv)) (w.alloc (mvB 4 A B Cc hh gg vv dv))) := hide (Below.refl _ _)
  obtain ⟨x0, x1, y0, y1, y4, y5, y6, z1, z2⟩ := L0
  have d1 : decide ((i : Int) < 1) = false := decide_eq_false (by omega)
  have i1 : (0 : Int) ≤ (i : Nat) := by omega
  have i2 : (i : Int) < (nN : Nat) := by omega
  clear H30 H33 H28 hOn hL hb hsz bx c0 c1 n1 n2 H60 hod
  unfold mvV at H60' ⊢
  unfold mvB at H30' H33' H28' hO0 x0 x1 y0 y1 y4 y5 y6 z1 z2 H60' HBX
  generalize hW : World.alloc w _ = W0 at *
  generalize hB : w.heap.size = b at *
  go_enter Tryz.func32, Tryz.ntmps32
  go_wp2_with fail
  (try rw [hW]); (try rw [hB])
  refine (unhide H30' _ hO0).mono ?_
  rintro e w1 ⟨rfl, hO1, ⟨x0, x1, y0, y1, y4, y5, y6, z1, z2⟩⟩
  go_wp2_with fail
  refine (unhide H33' _ hO1).mono ?_
  rintro e w2 ⟨rfl, hO2, ⟨x0, x1, y0, y1, y4, y5, y6, z1, z2⟩⟩
  go_wp2_with fail
  go_region_held3 (fun w' => w'.cell? ⟨ps, 0, none⟩ = some (.pointer (some ⟨ph, 0, none⟩)) ∧ w'.cell? ⟨b, 4, none⟩ = some (.int .i64 hh)) (go_keep) (first | (go_at_call 30; refine (unhide H30' _ (hide (unhide hO2).drew)).mono ?_; rintro e w3 ⟨rfl, hO3, ⟨x0, x1, y0, y1, y4, y5, y6, z1, z2⟩⟩) | (go_at_call 28; refine (unhide H28' _ hO3).mono ?_; rintro e w4 ⟨rfl, hO4, ⟨x0, x1, y0, y1, y4, y5, y6, z1, z2⟩⟩))
  go_wp2_with fail
  go_region_held3 (fun w' => w'.cell? ⟨ps, 1, none⟩ = some (.slice (some ⟨gN, 0, none⟩) nN cN) ∧ w'.cell? ⟨gN, i * 3 + 1, none⟩ = some (.slice ar lr cr) ∧ w'.cell? ⟨gN, i * 3 + 2, none⟩ = some (.slice aw lw cw)) (go_keep) (fail)
  obtain ⟨r0, r1, r2, r3, r4, r5, r6, r7⟩ := unhide HBX w4 hO4
  go_wp2_with fail
  refine (unhide H60' _ (hide (unhide hO4).drew)).mono ?_
  rintro e w5 ⟨rfl, hR⟩
  go_wp2_with fail
  go_ret
  exact ⟨rfl, hR⟩
end Go.Proofs.YtidfllgaeiopjaaGreat
namespace Go.Proofs.YtidfllgaeiopjaaGreat
open Go.ChangeShapes Go.WideShapes Go.ChangeAt Go.RowKit
set_option linter.unusedVariables false
set_option linter.unusedSimpArgs false
set_option maxRecDepth 100000
set_option maxHeartbeats 1000000


theorem changes_follow0 {w : World} {ps ph : Nat} (A B Cc hh gg : Int) (vv : Nat) (dv : Value) {hn : Int} {gN nN cN lr lw i ref : Nat} {ar aw : Option Addr} {cr cw : Nat} (c0 : w.cell? ⟨ps, 0, none⟩ = some (.pointer (some ⟨ph, 0, none⟩)))
    (c1 : w.cell? ⟨ps, 1, none⟩ = some (.slice (some ⟨gN, 0, none⟩) nN cN)) (hi : i < nN) (hi2 : nN ≤ 1000000) (h1 : 1 ≤ i)
    (n1 : w.cell? ⟨gN, i * 3 + 1, none⟩ = some (.slice ar lr cr)) (n2 : w.cell? ⟨gN, i * 3 + 2, none⟩ = some (.slice aw lw cw)) (hlr : lr ≤ 1048576) (hlw : lw ≤ 1048576)
    (H30 : ∀ W, Below (w.heap.size + 1) (w.alloc (mvB 7 A B Cc hh gg vv dv)) W → Calls Tryz.prog 30 #[.pointer (some ⟨ps, 0, none⟩), .int .i64 hh] W fun e w' => e = .returned (.int .i64 hn) ∧ Still W w')
    (H33 : ∀ W, Below (w.heap.size + 1) (w.alloc (mvB 7 A B Cc hh gg vv dv)) W → Calls Tryz.prog 33 #[.pointer (some ⟨ps, 0, none⟩), .int .i64 hn] W fun e w' => e = .returned (.int .i64 (i : Nat)) ∧ Still W w')
    (H28 : ∀ W, Below (w.heap.size + 1) (w.alloc (mvB 7 A B Cc hh gg vv dv)) W → Calls Tryz.prog 28 #[.pointer (some ⟨ph, 0, none⟩), .int .i64 hn] W fun e w' => e = .returned (.tuple #[.int .u64 (ref : Nat), .int .i64 0]) ∧ Below W.heap.size W w')
    (hno : lr = 0) {R : World → Prop} (HR : ∀ W, Below w.heap.size w W → R W) :
    Calls Tryz.prog 32 #[.pointer (some ⟨ps, 0, none⟩), mvV 7 A B Cc hh gg vv dv] w fun e w' => e = .returned (.bool true) ∧ R w' := by
  have hpl := block_lt_of_cell c0
  have hgl := block_lt_of_cell n1
  have hb : Below w.heap.size w (w.alloc (mvB 7 A B Cc hh gg vv dv)) := (Below.refl _ _).alloc (Nat.le_refl _) _
  have hsz : (w.alloc (mvB 7 A B Cc hh gg vv dv)).heap.size = w.heap.size + 1 := by simp
  have bx := Boxed.new w 7 A B Cc hh gg vv dv
  have L0 : Limbs ps ph w.heap.size gN nN cN i 7 A hh gg vv (.slice ar lr cr) (.slice aw lw cw) (w.alloc (mvB 7 A B Cc hh gg vv dv)) := ⟨(hb.cell (p := ⟨ps, 0, none⟩) hpl).trans c0, (hb.cell (p := ⟨ps, 1, none⟩) hpl).trans c1, bx.m0, bx.m1, bx.m4, bx.m5, bx.m6, (hb.cell (p := ⟨gN, i * 3 + 1, none⟩) hgl).trans n1, (hb.cell (p := ⟨gN, i * 3 + 2, none⟩) hgl).trans n2⟩
  have hL : ∀ W, Below (w.heap.size + 1) (w.alloc (mvB 7 A B Cc hh gg vv dv)) W → Limbs ps ph w.heap.size gN nN cN i 7 A hh gg vv (.slice ar lr cr) (.slice aw lw cw) W := fun W k => L0.on (by rw [hsz]; exact k)
  have hOn : ∀ W w', Below (w.heap.size + 1) (w.alloc (mvB 7 A B Cc hh gg vv dv)) W → Below W.heap.size W w' → Below (w.heap.size + 1) (w.alloc (mvB 7 A B Cc hh gg vv dv)) w' := fun W w' k q => k.trans (q.mono (by have := k.size; rw [hsz] at this; exact this))
  have H30' : Hid (∀ W, Hid (Below (w.heap.size + 1) (w.alloc (mvB 7 A B Cc hh gg vv dv)) W) → Calls Tryz.prog 30 #[.pointer (some ⟨ps, 0, none⟩), .int .i64 hh] W fun e w' => e = .returned (.int .i64 hn) ∧ Hid (Below (w.heap.size + 1) (w.alloc (mvB 7 A B Cc hh gg vv dv)) w') ∧ Limbs ps ph w.heap.size gN nN cN i 7 A hh gg vv (.slice ar lr cr) (.slice aw lw cw) w') := hide (fun W hW => (H30 W (unhide hW)).mono fun e w' ⟨q1, q2⟩ => ⟨q1, hide (hOn W w' (unhide hW) q2.below), hL w' (hOn W w' (unhide hW) q2.below)⟩)
  have H33' : Hid (∀ W, Hid (Below (w.heap.size + 1) (w.alloc (mvB 7 A B Cc hh gg vv dv)) W) → Calls Tryz.prog 33 #[.pointer (some ⟨ps, 0, none⟩), .int .i64 hn] W fun e w' => e = .returned (.int .i64 (i : Nat)) ∧ Hid (Below (w.heap.size + 1) (w.alloc (mvB 7 A B Cc hh gg vv dv)) w') ∧ Limbs ps ph w.heap.size gN nN cN i 7 A hh gg vv (.slice ar lr cr) (.slice aw lw cw) w') := hide (fun W hW => (H33 W (unhide hW)).mono fun e w' ⟨q1, q2⟩ => ⟨q1, hide (hOn W w' (unhide hW) q2.below), hL w' (hOn W w' (unhide hW) q2.below)⟩)
  have H28' : Hid (∀ W, Hid (Below (w.heap.size + 1) (w.alloc (mvB 7 A B Cc hh gg vv dv)) W) → Calls Tryz.prog 28 #[.pointer (some ⟨ph, 0, none⟩), .int .i64 hn] W fun e w' => e = .returned (.tuple #[.int .u64 (ref : Nat), .int .i64 0]) ∧ Hid (Below (w.heap.size + 1) (w.alloc (mvB 7 A B Cc hh gg vv dv)) w') ∧ Limbs ps ph w.heap.size gN nN cN i 7 A hh gg vv (.slice ar lr cr) (.slice aw lw cw) w') := hide (fun W hW => (H28 W (unhide hW)).mono fun e w' ⟨q1, q2⟩ => ⟨q1, hide (hOn W w' (unhide hW) q2), hL w' (hOn W w' (unhide hW) q2)⟩)
  have HR' : Hid (∀ W, Hid (Below (w.heap.size + 1) (w.alloc (mvB 7 A B Cc hh gg vv dv)) W) → R W) := hide (fun W k => HR W (hb.trans ((unhide k).mono (by omega))))
  have hO0 : Hid (Below (w.heap.size + 1) (w.alloc (mvB 7 A B Cc hh gg vv dv)) (w.alloc (mvB 7 A B Cc hh gg vv dv))) := hide (Below.refl _ _)
  obtain ⟨x0, x1, y0, y1, y4, y5, y6, z1, z2⟩ := L0
  have d1 : decide ((i : Int) < 1) = false := decide_eq_false (by omega)
  have i1 : (0 : Int) ≤ (i : Nat) := by omega
  have i2 : (i : Int) < (nN : Nat) := by omega
  clear H30 H33 H28 hOn hL hb hsz bx c0 c1 n1 n2 HR
  unfold mvV
  unfold mvB at H30' H33' H28' hO0 x0 x1 y0 y1 y4 y5 y6 z1 z2 HR'
  generalize hW : World.alloc w _ = W0 at *
  generalize hB : w.heap.size = b at *
  go_enter Tryz.func32, Tryz.ntmps32
  go_wp2_with fail
  (try rw [hW]); (try rw [hB])
  refine (unhide H30' _ hO0).mono ?_
  rintro e w1 ⟨rfl, hO1, ⟨x0, x1, y0, y1, y4, y5, y6, z1, z2⟩⟩
  go_wp2_with fail
  refine (unhide H33' _ hO1).mono ?_
  rintro e w2 ⟨rfl, hO2, ⟨x0, x1, y0, y1, y4, y5, y6, z1, z2⟩⟩
  go_wp2_with fail
  go_region_held3 (fun w' => w'.cell? ⟨ps, 0, none⟩ = some (.pointer (some ⟨ph, 0, none⟩)) ∧ w'.cell? ⟨b, 4, none⟩ = some (.int .i64 hh)) (go_keep) (first | (go_at_call 30; refine (unhide H30' _ (hide (unhide hO2).drew)).mono ?_; rintro e w3 ⟨rfl, hO3, ⟨x0, x1, y0, y1, y4, y5, y6, z1, z2⟩⟩) | (go_at_call 28; refine (unhide H28' _ hO3).mono ?_; rintro e w4 ⟨rfl, hO4, ⟨x0, x1, y0, y1, y4, y5, y6, z1, z2⟩⟩))
  go_wp2_with fail
  go_region_held3 (fun w' => w'.cell? ⟨ps, 1, none⟩ = some (.slice (some ⟨gN, 0, none⟩) nN cN) ∧ w'.cell? ⟨gN, i * 3 + 1, none⟩ = some (.slice ar lr cr) ∧ w'.cell? ⟨gN, i * 3 + 2, none⟩ = some (.slice aw lw cw)) (go_keep) (fail)
  subst hno
  go_wp2_with fail
  go_ret
  exact ⟨rfl, unhide HR' _ (hide (unhide hO4).drew)⟩

theorem changes_follow {w : World} {ps ph : Nat} (A B Cc hh gg : Int) (vv : Nat) (dv : Value) {hn : Int} {gN nN cN lr lw i ref : Nat} {ar aw : Option Addr} {cr cw : Nat} (c0 : w.cell? ⟨ps, 0, none⟩ = some (.pointer (some ⟨ph, 0, none⟩)))
    (c1 : w.cell? ⟨ps, 1, none⟩ = some (.slice (some ⟨gN, 0, none⟩) nN cN)) (hi : i < nN) (hi2 : nN ≤ 1000000) (h1 : 1 ≤ i)
    (n1 : w.cell? ⟨gN, i * 3 + 1, none⟩ = some (.slice ar lr cr)) (n2 : w.cell? ⟨gN, i * 3 + 2, none⟩ = some (.slice aw lw cw)) (hlr : lr ≤ 1048576) (hlw : lw ≤ 1048576)
    (H30 : ∀ W, Below (w.heap.size + 1) (w.alloc (mvB 7 A B Cc hh gg vv dv)) W → Calls Tryz.prog 30 #[.pointer (some ⟨ps, 0, none⟩), .int .i64 hh] W fun e w' => e = .returned (.int .i64 hn) ∧ Still W w')
    (H33 : ∀ W, Below (w.heap.size + 1) (w.alloc (mvB 7 A B Cc hh gg vv dv)) W → Calls Tryz.prog 33 #[.pointer (some ⟨ps, 0, none⟩), .int .i64 hn] W fun e w' => e = .returned (.int .i64 (i : Nat)) ∧ Still W w')
    (H28 : ∀ W, Below (w.heap.size + 1) (w.alloc (mvB 7 A B Cc hh gg vv dv)) W → Calls Tryz.prog 28 #[.pointer (some ⟨ph, 0, none⟩), .int .i64 hn] W fun e w' => e = .returned (.tuple #[.int .u64 (ref : Nat), .int .i64 0]) ∧ Below W.heap.size W w')
    {k ga v : Nat} {xa : Nat} (hlr0 : 0 < lr) (har : ar = some ⟨ga, 0, none⟩) (hk : k < lr) (ca : w.cell? ⟨ga, k, none⟩ = some (.int .i64 (xa : Nat)))
    (H58 : ∀ W, Calls Tryz.prog 58 #[.int .i64 A, .int .i64 (lr : Nat)] W fun e w' => e = .returned (.int .i64 (k : Nat)) ∧ w' = W)
    (H29 : ∀ W, Below (w.heap.size + 1) (w.alloc (mvB 7 A B Cc hh gg vv dv)) W → Calls Tryz.prog 29 #[.pointer (some ⟨ph, 0, none⟩), .int .u64 (ref : Nat), .int .i64 (k : Nat)] W fun e w' => e = .returned (.tuple #[.int .u64 (v : Nat), .int .i64 0]) ∧ Below W.heap.size W w') {R : World → Prop} (H59 : ∀ W, Below (w.heap.size + 1) (w.alloc (mvB 7 A B Cc hh gg vv dv)) W → Calls Tryz.prog 59 #[.pointer (some ⟨ps, 0, none⟩), .int .u64 (v : Nat), .int .i64 (xa : Nat)] W fun e w' => e = .returned (.bool true) ∧ w'.cell? ⟨ps, 1, none⟩ = W.cell? ⟨ps, 1, none⟩ ∧ w'.heap[gN]? = W.heap[gN]? ∧ w'.heap[w.heap.size]? = W.heap[w.heap.size]? ∧ w'.heap[ga]? = W.heap[ga]? ∧ R w') :
    Calls Tryz.prog 32 #[.pointer (some ⟨ps, 0, none⟩), mvV 7 A B Cc hh gg vv dv] w fun e w' => e = .returned (.bool true) ∧ R w' := by
  have hpl := block_lt_of_cell c0
  have hgl := block_lt_of_cell n1
  have hb : Below w.heap.size w (w.alloc (mvB 7 A B Cc hh gg vv dv)) := (Below.refl _ _).alloc (Nat.le_refl _) _
  have hsz : (w.alloc (mvB 7 A B Cc hh gg vv dv)).heap.size = w.heap.size + 1 := by simp
  have bx := Boxed.new w 7 A B Cc hh gg vv dv
  have L0 : Limbs ps ph w.heap.size gN nN cN i 7 A hh gg vv (.slice ar lr cr) (.slice aw lw cw) (w.alloc (mvB 7 A B Cc hh gg vv dv)) := ⟨(hb.cell (p := ⟨ps, 0, none⟩) hpl).trans c0, (hb.cell (p := ⟨ps, 1, none⟩) hpl).trans c1, bx.m0, bx.m1, bx.m4, bx.m5, bx.m6, (hb.cell (p := ⟨gN, i * 3 + 1, none⟩) hgl).trans n1, (hb.cell (p := ⟨gN, i * 3 + 2, none⟩) hgl).trans n2⟩
  have hL : ∀ W, Below (w.heap.size + 1) (w.alloc (mvB 7 A B Cc hh gg vv dv)) W → Limbs ps ph w.heap.size gN nN cN i 7 A hh gg vv (.slice ar lr cr) (.slice aw lw cw) W := fun W k => L0.on (by rw [hsz]; exact k)
  have hOn : ∀ W w', Below (w.heap.size + 1) (w.alloc (mvB 7 A B Cc hh gg vv dv)) W → Below W.heap.size W w' → Below (w.heap.size + 1) (w.alloc (mvB 7 A B Cc hh gg vv dv)) w' := fun W w' k q => k.trans (q.mono (by have := k.size; rw [hsz] at this; exact this))
  have H30' : Hid (∀ W, Hid (Below (w.heap.size + 1) (w.alloc (mvB 7 A B Cc hh gg vv dv)) W) → Calls Tryz.prog 30 #[.pointer (some ⟨ps, 0, none⟩), .int .i64 hh] W fun e w' => e = .returned (.int .i64 hn) ∧ Hid (Below (w.heap.size + 1) (w.alloc (mvB 7 A B Cc hh gg vv dv)) w') ∧ Limbs ps ph w.heap.size gN nN cN i 7 A hh gg vv (.slice ar lr cr) (.slice aw lw cw) w') := hide (fun W hW => (H30 W (unhide hW)).mono fun e w' ⟨q1, q2⟩ => ⟨q1, hide (hOn W w' (unhide hW) q2.below), hL w' (hOn W w' (unhide hW) q2.below)⟩)
  have H33' : Hid (∀ W, Hid (Below (w.heap.size + 1) (w.alloc (mvB 7 A B Cc hh gg vv dv)) W) → Calls Tryz.prog 33 #[.pointer (some ⟨ps, 0, none⟩), .int .i64 hn] W fun e w' => e = .returned (.int .i64 (i : Nat)) ∧ Hid (Below (w.heap.size + 1) (w.alloc (mvB 7 A B Cc hh gg vv dv)) w') ∧ Limbs ps ph w.heap.size gN nN cN i 7 A hh gg vv (.slice ar lr cr) (.slice aw lw cw) w') := hide (fun W hW => (H33 W (unhide hW)).mono fun e w' ⟨q1, q2⟩ => ⟨q1, hide (hOn W w' (unhide hW) q2.below), hL w' (hOn W w' (unhide hW) q2.below)⟩)
  have H28' : Hid (∀ W, Hid (Below (w.heap.size + 1) (w.alloc (mvB 7 A B Cc hh gg vv dv)) W) → Calls Tryz.prog 28 #[.pointer (some ⟨ph, 0, none⟩), .int .i64 hn] W fun e w' => e = .returned (.tuple #[.int .u64 (ref : Nat), .int .i64 0]) ∧ Hid (Below (w.heap.size + 1) (w.alloc (mvB 7 A B Cc hh gg vv dv)) w') ∧ Limbs ps ph w.heap.size gN nN cN i 7 A hh gg vv (.slice ar lr cr) (.slice aw lw cw) w') := hide (fun W hW => (H28 W (unhide hW)).mono fun e w' ⟨q1, q2⟩ => ⟨q1, hide (hOn W w' (unhide hW) q2), hL w' (hOn W w' (unhide hW) q2)⟩)
  have hgal : ga < w.heap.size := block_lt_of_cell ca
  have H29' : Hid (∀ W, Hid (Below (w.heap.size + 1) (w.alloc (mvB 7 A B Cc hh gg vv dv)) W) → Calls Tryz.prog 29 #[.pointer (some ⟨ph, 0, none⟩), .int .u64 (ref : Nat), .int .i64 (k : Nat)] W fun e w' => e = .returned (.tuple #[.int .u64 (v : Nat), .int .i64 0]) ∧ Hid (Below (w.heap.size + 1) (w.alloc (mvB 7 A B Cc hh gg vv dv)) w') ∧ Limbs ps ph w.heap.size gN nN cN i 7 A hh gg vv (.slice ar lr cr) (.slice aw lw cw) w' ∧ w'.cell? ⟨ga, k, none⟩ = some (.int .i64 (xa : Nat))) := hide (fun W hW => (H29 W (unhide hW)).mono fun e w' ⟨q1, q2⟩ => ⟨q1, hide (hOn W w' (unhide hW) q2), hL w' (hOn W w' (unhide hW) q2), by
    have k1 := hOn W w' (unhide hW) q2
    rw [← ca]; simp only [World.cell?, k1.block ga (by omega), hb.block ga hgal]⟩)
  have H59' : Hid (∀ W, Hid (Below (w.heap.size + 1) (w.alloc (mvB 7 A B Cc hh gg vv dv)) W) → Calls Tryz.prog 59 #[.pointer (some ⟨ps, 0, none⟩), .int .u64 (v : Nat), .int .i64 (xa : Nat)] W fun e w' => e = .returned (.bool true) ∧ w'.cell? ⟨ps, 1, none⟩ = some (.slice (some ⟨gN, 0, none⟩) nN cN) ∧ w'.cell? ⟨gN, i * 3 + 1, none⟩ = some (.slice ar lr cr) ∧ w'.cell? ⟨w.heap.size, 1, none⟩ = some (.int .i64 A) ∧ w'.cell? ⟨ga, k, none⟩ = some (.int .i64 (xa : Nat)) ∧ Hid (R w')) := hide (fun W hW => (H59 W (unhide hW)).mono fun e w' ⟨q1, q2, q3, q4, q5, q6⟩ => by
    have hl := hL W (unhide hW)
    refine ⟨q1, q2.trans hl.c1, ?_, ?_, ?_, hide q6⟩
    · rw [← hl.n1]; simp only [World.cell?, q3]
    · rw [← hl.m1]; simp only [World.cell?, q4]
    · rw [← ca]; simp only [World.cell?, q5, (unhide hW).block ga (by omega), hb.block ga hgal])
  have H58' := hide H58
  have hO0 : Hid (Below (w.heap.size + 1) (w.alloc (mvB 7 A B Cc hh gg vv dv)) (w.alloc (mvB 7 A B Cc hh gg vv dv))) := hide (Below.refl _ _)
  obtain ⟨x0, x1, y0, y1, y4, y5, y6, z1, z2⟩ := L0
  have d1 : decide ((i : Int) < 1) = false := decide_eq_false (by omega)
  have i1 : (0 : Int) ≤ (i : Nat) := by omega
  have i2 : (i : Int) < (nN : Nat) := by omega
  clear H30 H33 H28 hOn hL hb hsz bx c0 c1 n1 n2 H29 H58 H59 ca
  unfold mvV
  unfold mvB at H30' H33' H28' hO0 x0 x1 y0 y1 y4 y5 y6 z1 z2 H29' H59'
  generalize hW : World.alloc w _ = W0 at *
  generalize hB : w.heap.size = b at *
  go_enter Tryz.func32, Tryz.ntmps32
  go_wp2_with fail
  (try rw [hW]); (try rw [hB])
  refine (unhide H30' _ hO0).mono ?_
  rintro e w1 ⟨rfl, hO1, ⟨x0, x1, y0, y1, y4, y5, y6, z1, z2⟩⟩
  go_wp2_with fail
  refine (unhide H33' _ hO1).mono ?_
  rintro e w2 ⟨rfl, hO2, ⟨x0, x1, y0, y1, y4, y5, y6, z1, z2⟩⟩
  go_wp2_with fail
  go_region_held3 (fun w' => w'.cell? ⟨ps, 0, none⟩ = some (.pointer (some ⟨ph, 0, none⟩)) ∧ w'.cell? ⟨b, 4, none⟩ = some (.int .i64 hh)) (go_keep) (first | (go_at_call 30; refine (unhide H30' _ (hide (unhide hO2).drew)).mono ?_; rintro e w3 ⟨rfl, hO3, ⟨x0, x1, y0, y1, y4, y5, y6, z1, z2⟩⟩) | (go_at_call 28; refine (unhide H28' _ hO3).mono ?_; rintro e w4 ⟨rfl, hO4, ⟨x0, x1, y0, y1, y4, y5, y6, z1, z2⟩⟩))
  go_wp2_with fail
  go_region_held3 (fun w' => w'.cell? ⟨ps, 1, none⟩ = some (.slice (some ⟨gN, 0, none⟩) nN cN) ∧ w'.cell? ⟨gN, i * 3 + 1, none⟩ = some (.slice ar lr cr) ∧ w'.cell? ⟨gN, i * 3 + 2, none⟩ = some (.slice aw lw cw)) (go_keep) (fail)
  subst har
  have d2 : decide ((lr : Int) = 0) = false := decide_eq_false (by omega)
  have i3 : (0 : Int) ≤ (k : Nat) := by omega
  have i4 : (k : Int) < (lr : Nat) := by omega
  go_wp2_with fail
  go_region_held3 (fun w' => w'.cell? ⟨ps, 0, none⟩ = some (.pointer (some ⟨ph, 0, none⟩)) ∧ w'.cell? ⟨b, 1, none⟩ = some (.int .i64 A)) (go_keep) (first | (go_at_call 58; refine (unhide H58' _).mono ?_; rintro e w9 ⟨rfl, hw9⟩; obtain rfl := hw9.symm) | (go_at_call 29; refine (unhide H29' _ (hide ((unhide hO4).drew.drew))).mono ?_; rintro e wa ⟨rfl, hOa, ⟨x0, x1, y0, y1, y4, y5, y6, z1, z2⟩, u1⟩))
  go_wp2_with fail
  go_region_held3 (fun w' => w'.cell? ⟨ps, 1, none⟩ = some (.slice (some ⟨gN, 0, none⟩) nN cN) ∧ w'.cell? ⟨gN, i * 3 + 1, none⟩ = some (.slice (some ⟨ga, 0, none⟩) lr cr) ∧ w'.cell? ⟨b, 1, none⟩ = some (.int .i64 A) ∧ w'.cell? ⟨ga, k, none⟩ = some (.int .i64 (xa : Nat))) (go_keep) (first | (go_at_call 58; refine (unhide H58' _).mono ?_; rintro e w9 ⟨rfl, hw9⟩; obtain rfl := hw9.symm) | (go_at_call 59; refine (unhide H59' _ (hide (unhide hOa).drew)).mono ?_; rintro e wb ⟨rfl, v1, v2, v3, v4, hR⟩))
  all_goals go_wp2_with fail
  all_goals go_ret
  all_goals exact ⟨rfl, unhide hR⟩
end Go.Proofs.YtidfllgaeiopjaaGreat
namespace Go.Proofs.YtidfllgaeiopjaaGreat
open Go.ChangeShapes Go.WideShapes Go.ChangeAt Go.RowKit
set_option linter.unusedVariables false
set_option linter.unusedSimpArgs false
set_option maxRecDepth 100000
set_option maxHeartbeats 1000000


theorem changes_lay0 {w : World} {ps ph : Nat} (A B Cc hh gg : Int) (vv : Nat) (dv : Value) {hn : Int} {gN nN cN lr lw i ref : Nat} {ar aw : Option Addr} {cr cw : Nat} (c0 : w.cell? ⟨ps, 0, none⟩ = some (.pointer (some ⟨ph, 0, none⟩)))
    (c1 : w.cell? ⟨ps, 1, none⟩ = some (.slice (some ⟨gN, 0, none⟩) nN cN)) (hi : i < nN) (hi2 : nN ≤ 1000000) (h1 : 1 ≤ i)
    (n1 : w.cell? ⟨gN, i * 3 + 1, none⟩ = some (.slice ar lr cr)) (n2 : w.cell? ⟨gN, i * 3 + 2, none⟩ = some (.slice aw lw cw)) (hlr : lr ≤ 1048576) (hlw : lw ≤ 1048576)
    (H30 : ∀ W, Below (w.heap.size + 1) (w.alloc (mvB 3 A B Cc hh gg vv dv)) W → Calls Tryz.prog 30 #[.pointer (some ⟨ps, 0, none⟩), .int .i64 hh] W fun e w' => e = .returned (.int .i64 hn) ∧ Still W w')
    (H33 : ∀ W, Below (w.heap.size + 1) (w.alloc (mvB 3 A B Cc hh gg vv dv)) W → Calls Tryz.prog 33 #[.pointer (some ⟨ps, 0, none⟩), .int .i64 hn] W fun e w' => e = .returned (.int .i64 (i : Nat)) ∧ Still W w')
    (H28 : ∀ W, Below (w.heap.size + 1) (w.alloc (mvB 3 A B Cc hh gg vv dv)) W → Calls Tryz.prog 28 #[.pointer (some ⟨ph, 0, none⟩), .int .i64 hn] W fun e w' => e = .returned (.tuple #[.int .u64 (ref : Nat), .int .i64 0]) ∧ Below W.heap.size W w')
    (hno : lw = 0) {R : World → Prop} (HR : ∀ W, Below w.heap.size w W → R W) :
    Calls Tryz.prog 32 #[.pointer (some ⟨ps, 0, none⟩), mvV 3 A B Cc hh gg vv dv] w fun e w' => e = .returned (.bool true) ∧ R w' := by
  have hpl := block_lt_of_cell c0
  have hgl := block_lt_of_cell n1
  have hb : Below w.heap.size w (w.alloc (mvB 3 A B Cc hh gg vv dv)) := (Below.refl _ _).alloc (Nat.le_refl _) _
  have hsz : (w.alloc (mvB 3 A B Cc hh gg vv dv)).heap.size = w.heap.size + 1 := by simp
  have bx := Boxed.new w 3 A B Cc hh gg vv dv
  have L0 : Limbs ps ph w.heap.size gN nN cN i 3 A hh gg vv (.slice ar lr cr) (.slice aw lw cw) (w.alloc (mvB 3 A B Cc hh gg vv dv)) := ⟨(hb.cell (p := ⟨ps, 0, none⟩) hpl).trans c0, (hb.cell (p := ⟨ps, 1, none⟩) hpl).trans c1, bx.m0, bx.m1, bx.m4, bx.m5, bx.m6, (hb.cell (p := ⟨gN, i * 3 + 1, none⟩) hgl).trans n1, (hb.cell (p := ⟨gN, i * 3 + 2, none⟩) hgl).trans n2⟩
  have hL : ∀ W, Below (w.heap.size + 1) (w.alloc (mvB 3 A B Cc hh gg vv dv)) W → Limbs ps ph w.heap.size gN nN cN i 3 A hh gg vv (.slice ar lr cr) (.slice aw lw cw) W := fun W k => L0.on (by rw [hsz]; exact k)
  have hOn : ∀ W w', Below (w.heap.size + 1) (w.alloc (mvB 3 A B Cc hh gg vv dv)) W → Below W.heap.size W w' → Below (w.heap.size + 1) (w.alloc (mvB 3 A B Cc hh gg vv dv)) w' := fun W w' k q => k.trans (q.mono (by have := k.size; rw [hsz] at this; exact this))
  have H30' : Hid (∀ W, Hid (Below (w.heap.size + 1) (w.alloc (mvB 3 A B Cc hh gg vv dv)) W) → Calls Tryz.prog 30 #[.pointer (some ⟨ps, 0, none⟩), .int .i64 hh] W fun e w' => e = .returned (.int .i64 hn) ∧ Hid (Below (w.heap.size + 1) (w.alloc (mvB 3 A B Cc hh gg vv dv)) w') ∧ Limbs ps ph w.heap.size gN nN cN i 3 A hh gg vv (.slice ar lr cr) (.slice aw lw cw) w') := hide (fun W hW => (H30 W (unhide hW)).mono fun e w' ⟨q1, q2⟩ => ⟨q1, hide (hOn W w' (unhide hW) q2.below), hL w' (hOn W w' (unhide hW) q2.below)⟩)
  have H33' : Hid (∀ W, Hid (Below (w.heap.size + 1) (w.alloc (mvB 3 A B Cc hh gg vv dv)) W) → Calls Tryz.prog 33 #[.pointer (some ⟨ps, 0, none⟩), .int .i64 hn] W fun e w' => e = .returned (.int .i64 (i : Nat)) ∧ Hid (Below (w.heap.size + 1) (w.alloc (mvB 3 A B Cc hh gg vv dv)) w') ∧ Limbs ps ph w.heap.size gN nN cN i 3 A hh gg vv (.slice ar lr cr) (.slice aw lw cw) w') := hide (fun W hW => (H33 W (unhide hW)).mono fun e w' ⟨q1, q2⟩ => ⟨q1, hide (hOn W w' (unhide hW) q2.below), hL w' (hOn W w' (unhide hW) q2.below)⟩)
  have H28' : Hid (∀ W, Hid (Below (w.heap.size + 1) (w.alloc (mvB 3 A B Cc hh gg vv dv)) W) → Calls Tryz.prog 28 #[.pointer (some ⟨ph, 0, none⟩), .int .i64 hn] W fun e w' => e = .returned (.tuple #[.int .u64 (ref : Nat), .int .i64 0]) ∧ Hid (Below (w.heap.size + 1) (w.alloc (mvB 3 A B Cc hh gg vv dv)) w') ∧ Limbs ps ph w.heap.size gN nN cN i 3 A hh gg vv (.slice ar lr cr) (.slice aw lw cw) w') := hide (fun W hW => (H28 W (unhide hW)).mono fun e w' ⟨q1, q2⟩ => ⟨q1, hide (hOn W w' (unhide hW) q2), hL w' (hOn W w' (unhide hW) q2)⟩)
  have HR' : Hid (∀ W, Hid (Below (w.heap.size + 1) (w.alloc (mvB 3 A B Cc hh gg vv dv)) W) → R W) := hide (fun W k => HR W (hb.trans ((unhide k).mono (by omega))))
  have hO0 : Hid (Below (w.heap.size + 1) (w.alloc (mvB 3 A B Cc hh gg vv dv)) (w.alloc (mvB 3 A B Cc hh gg vv dv))) := hide (Below.refl _ _)
  obtain ⟨x0, x1, y0, y1, y4, y5, y6, z1, z2⟩ := L0
  have d1 : decide ((i : Int) < 1) = false := decide_eq_false (by omega)
  have i1 : (0 : Int) ≤ (i : Nat) := by omega
  have i2 : (i : Int) < (nN : Nat) := by omega
  clear H30 H33 H28 hOn hL hb hsz bx c0 c1 n1 n2 HR
  unfold mvV
  unfold mvB at H30' H33' H28' hO0 x0 x1 y0 y1 y4 y5 y6 z1 z2 HR'
  generalize hW : World.alloc w _ = W0 at *
  generalize hB : w.heap.size = b at *
  go_enter Tryz.func32, Tryz.ntmps32
  go_wp2_with fail
  (try rw [hW]); (try rw [hB])
  refine (unhide H30' _ hO0).mono ?_
  rintro e w1 ⟨rfl, hO1, ⟨x0, x1, y0, y1, y4, y5, y6, z1, z2⟩⟩
  go_wp2_with fail
  refine (unhide H33' _ hO1).mono ?_
  rintro e w2 ⟨rfl, hO2, ⟨x0, x1, y0, y1, y4, y5, y6, z1, z2⟩⟩
  go_wp2_with fail
  go_region_held3 (fun w' => w'.cell? ⟨ps, 0, none⟩ = some (.pointer (some ⟨ph, 0, none⟩)) ∧ w'.cell? ⟨b, 4, none⟩ = some (.int .i64 hh)) (go_keep) (first | (go_at_call 30; refine (unhide H30' _ (hide (unhide hO2).drew)).mono ?_; rintro e w3 ⟨rfl, hO3, ⟨x0, x1, y0, y1, y4, y5, y6, z1, z2⟩⟩) | (go_at_call 28; refine (unhide H28' _ hO3).mono ?_; rintro e w4 ⟨rfl, hO4, ⟨x0, x1, y0, y1, y4, y5, y6, z1, z2⟩⟩))
  go_wp2_with fail
  go_region_held3 (fun w' => w'.cell? ⟨ps, 1, none⟩ = some (.slice (some ⟨gN, 0, none⟩) nN cN) ∧ w'.cell? ⟨gN, i * 3 + 1, none⟩ = some (.slice ar lr cr) ∧ w'.cell? ⟨gN, i * 3 + 2, none⟩ = some (.slice aw lw cw)) (go_keep) (fail)
  subst hno
  go_wp2_with fail
  go_ret
  exact ⟨rfl, unhide HR' _ (hide (unhide hO4).drew)⟩

theorem changes_lay {w : World} {ps ph : Nat} (A B Cc hh gg : Int) (vv : Nat) (dv : Value) {hn : Int} {gN nN cN lr lw i ref : Nat} {ar aw : Option Addr} {cr cw : Nat} (c0 : w.cell? ⟨ps, 0, none⟩ = some (.pointer (some ⟨ph, 0, none⟩)))
    (c1 : w.cell? ⟨ps, 1, none⟩ = some (.slice (some ⟨gN, 0, none⟩) nN cN)) (hi : i < nN) (hi2 : nN ≤ 1000000) (h1 : 1 ≤ i)
    (n1 : w.cell? ⟨gN, i * 3 + 1, none⟩ = some (.slice ar lr cr)) (n2 : w.cell? ⟨gN, i * 3 + 2, none⟩ = some (.slice aw lw cw)) (hlr : lr ≤ 1048576) (hlw : lw ≤ 1048576)
    (H30 : ∀ W, Below (w.heap.size + 1) (w.alloc (mvB 3 A B Cc hh gg vv dv)) W → Calls Tryz.prog 30 #[.pointer (some ⟨ps, 0, none⟩), .int .i64 hh] W fun e w' => e = .returned (.int .i64 hn) ∧ Still W w')
    (H33 : ∀ W, Below (w.heap.size + 1) (w.alloc (mvB 3 A B Cc hh gg vv dv)) W → Calls Tryz.prog 33 #[.pointer (some ⟨ps, 0, none⟩), .int .i64 hn] W fun e w' => e = .returned (.int .i64 (i : Nat)) ∧ Still W w')
    (H28 : ∀ W, Below (w.heap.size + 1) (w.alloc (mvB 3 A B Cc hh gg vv dv)) W → Calls Tryz.prog 28 #[.pointer (some ⟨ph, 0, none⟩), .int .i64 hn] W fun e w' => e = .returned (.tuple #[.int .u64 (ref : Nat), .int .i64 0]) ∧ Below W.heap.size W w')
    {k ga : Nat} {xa : Value} {G : World → Prop} (hlr0 : 0 < lw) (har : aw = some ⟨ga, 0, none⟩) (hk : k < lw) (ca : w.cell? ⟨ga, k, none⟩ = some xa) (fa : w.frozen? ⟨ga, k, none⟩ = false) (np : ga ≠ ps) (nn : ga ≠ gN)
    (H58 : ∀ W, Calls Tryz.prog 58 #[.int .i64 A, .int .i64 (lw : Nat)] W fun e w' => e = .returned (.int .i64 (k : Nat)) ∧ w' = W)
    (H26 : ∀ W, Below (w.heap.size + 1) (w.alloc (mvB 3 A B Cc hh gg vv dv)) W → Calls Tryz.prog 26 #[.pointer (some ⟨ph, 0, none⟩), .int .u64 (ref : Nat), .int .i64 ((lr : Int) + (k : Nat)), .int .u64 (vv : Nat)] W fun e w' => e = .returned (.int .i64 0) ∧ w'.heap[ps]? = W.heap[ps]? ∧ w'.heap[gN]? = W.heap[gN]? ∧ w'.heap[w.heap.size]? = W.heap[w.heap.size]? ∧ w'.heap[ga]? = W.heap[ga]? ∧ G w') {R : World → Prop} (HR : ∀ w5, G w5 → ∀ W, Still (w5.setCell ⟨ga, k, none⟩ (.int .u64 (vv : Nat))) W → R W) :
    Calls Tryz.prog 32 #[.pointer (some ⟨ps, 0, none⟩), mvV 3 A B Cc hh gg vv dv] w fun e w' => e = .returned (.bool true) ∧ R w' := by
  have hpl := block_lt_of_cell c0
  have hgl := block_lt_of_cell n1
  have hb : Below w.heap.size w (w.alloc (mvB 3 A B Cc hh gg vv dv)) := (Below.refl _ _).alloc (Nat.le_refl _) _
  have hsz : (w.alloc (mvB 3 A B Cc hh gg vv dv)).heap.size = w.heap.size + 1 := by simp
  have bx := Boxed.new w 3 A B Cc hh gg vv dv
  have L0 : Limbs ps ph w.heap.size gN nN cN i 3 A hh gg vv (.slice ar lr cr) (.slice aw lw cw) (w.alloc (mvB 3 A B Cc hh gg vv dv)) := ⟨(hb.cell (p := ⟨ps, 0, none⟩) hpl).trans c0, (hb.cell (p := ⟨ps, 1, none⟩) hpl).trans c1, bx.m0, bx.m1, bx.m4, bx.m5, bx.m6, (hb.cell (p := ⟨gN, i * 3 + 1, none⟩) hgl).trans n1, (hb.cell (p := ⟨gN, i * 3 + 2, none⟩) hgl).trans n2⟩
  have hL : ∀ W, Below (w.heap.size + 1) (w.alloc (mvB 3 A B Cc hh gg vv dv)) W → Limbs ps ph w.heap.size gN nN cN i 3 A hh gg vv (.slice ar lr cr) (.slice aw lw cw) W := fun W k => L0.on (by rw [hsz]; exact k)
  have hOn : ∀ W w', Below (w.heap.size + 1) (w.alloc (mvB 3 A B Cc hh gg vv dv)) W → Below W.heap.size W w' → Below (w.heap.size + 1) (w.alloc (mvB 3 A B Cc hh gg vv dv)) w' := fun W w' k q => k.trans (q.mono (by have := k.size; rw [hsz] at this; exact this))
  have H30' : Hid (∀ W, Hid (Below (w.heap.size + 1) (w.alloc (mvB 3 A B Cc hh gg vv dv)) W) → Calls Tryz.prog 30 #[.pointer (some ⟨ps, 0, none⟩), .int .i64 hh] W fun e w' => e = .returned (.int .i64 hn) ∧ Hid (Below (w.heap.size + 1) (w.alloc (mvB 3 A B Cc hh gg vv dv)) w') ∧ Limbs ps ph w.heap.size gN nN cN i 3 A hh gg vv (.slice ar lr cr) (.slice aw lw cw) w') := hide (fun W hW => (H30 W (unhide hW)).mono fun e w' ⟨q1, q2⟩ => ⟨q1, hide (hOn W w' (unhide hW) q2.below), hL w' (hOn W w' (unhide hW) q2.below)⟩)
  have H33' : Hid (∀ W, Hid (Below (w.heap.size + 1) (w.alloc (mvB 3 A B Cc hh gg vv dv)) W) → Calls Tryz.prog 33 #[.pointer (some ⟨ps, 0, none⟩), .int .i64 hn] W fun e w' => e = .returned (.int .i64 (i : Nat)) ∧ Hid (Below (w.heap.size + 1) (w.alloc (mvB 3 A B Cc hh gg vv dv)) w') ∧ Limbs ps ph w.heap.size gN nN cN i 3 A hh gg vv (.slice ar lr cr) (.slice aw lw cw) w') := hide (fun W hW => (H33 W (unhide hW)).mono fun e w' ⟨q1, q2⟩ => ⟨q1, hide (hOn W w' (unhide hW) q2.below), hL w' (hOn W w' (unhide hW) q2.below)⟩)
  have H28' : Hid (∀ W, Hid (Below (w.heap.size + 1) (w.alloc (mvB 3 A B Cc hh gg vv dv)) W) → Calls Tryz.prog 28 #[.pointer (some ⟨ph, 0, none⟩), .int .i64 hn] W fun e w' => e = .returned (.tuple #[.int .u64 (ref : Nat), .int .i64 0]) ∧ Hid (Below (w.heap.size + 1) (w.alloc (mvB 3 A B Cc hh gg vv dv)) w') ∧ Limbs ps ph w.heap.size gN nN cN i 3 A hh gg vv (.slice ar lr cr) (.slice aw lw cw) w') := hide (fun W hW => (H28 W (unhide hW)).mono fun e w' ⟨q1, q2⟩ => ⟨q1, hide (hOn W w' (unhide hW) q2), hL w' (hOn W w' (unhide hW) q2)⟩)
  have hgal : ga < w.heap.size := block_lt_of_cell ca
  have H26' : Hid (∀ W, Hid (Below (w.heap.size + 1) (w.alloc (mvB 3 A B Cc hh gg vv dv)) W) → Calls Tryz.prog 26 #[.pointer (some ⟨ph, 0, none⟩), .int .u64 (ref : Nat), .int .i64 ((lr : Int) + (k : Nat)), .int .u64 (vv : Nat)] W fun e w' => e = .returned (.int .i64 0) ∧ Limbs ps ph w.heap.size gN nN cN i 3 A hh gg vv (.slice ar lr cr) (.slice aw lw cw) w' ∧ (∃ xa, w'.cell? ⟨ga, k, none⟩ = some xa) ∧ w'.frozen? ⟨ga, k, none⟩ = false ∧ Hid (G w')) := hide (fun W hW => (H26 W (unhide hW)).mono fun e w' ⟨q1, q2, q3, q4, q5, q6⟩ => by
    have hl := hL W (unhide hW)
    have ew : W.heap[ga]? = w.heap[ga]? := ((unhide hW).block ga (by omega)).trans (hb.block ga hgal)
    refine ⟨q1, ⟨?_, ?_, ?_, ?_, ?_, ?_, ?_, ?_, ?_⟩, ⟨xa, ?_⟩, ?_, hide q6⟩
    · rw [← hl.c0]; simp only [World.cell?, q2]
    · rw [← hl.c1]; simp only [World.cell?, q2]
    · rw [← hl.m0]; simp only [World.cell?, q4]
    · rw [← hl.m1]; simp only [World.cell?, q4]
    · rw [← hl.m4]; simp only [World.cell?, q4]
    · rw [← hl.m5]; simp only [World.cell?, q4]
    · rw [← hl.m6]; simp only [World.cell?, q4]
    · rw [← hl.n1]; simp only [World.cell?, q3]
    · rw [← hl.n2]; simp only [World.cell?, q3]
    · rw [← ca]; simp only [World.cell?, q5, ew]
    · rw [← fa]; simp only [World.frozen?, q5, ew])
  have ne1 : ga ≠ w.heap.size := Nat.ne_of_lt hgal
  have H58' := hide H58
  have HR' := hide HR
  have hO0 : Hid (Below (w.heap.size + 1) (w.alloc (mvB 3 A B Cc hh gg vv dv)) (w.alloc (mvB 3 A B Cc hh gg vv dv))) := hide (Below.refl _ _)
  obtain ⟨x0, x1, y0, y1, y4, y5, y6, z1, z2⟩ := L0
  have d1 : decide ((i : Int) < 1) = false := decide_eq_false (by omega)
  have i1 : (0 : Int) ≤ (i : Nat) := by omega
  have i2 : (i : Int) < (nN : Nat) := by omega
  clear H30 H33 H28 hOn hL hb hsz bx c0 c1 n1 n2 H26 H58 HR ca fa
  unfold mvV
  unfold mvB at H30' H33' H28' hO0 x0 x1 y0 y1 y4 y5 y6 z1 z2 H26'
  generalize hW : World.alloc w _ = W0 at *
  generalize hB : w.heap.size = b at *
  go_enter Tryz.func32, Tryz.ntmps32
  go_wp2_with fail
  (try rw [hW]); (try rw [hB])
  refine (unhide H30' _ hO0).mono ?_
  rintro e w1 ⟨rfl, hO1, ⟨x0, x1, y0, y1, y4, y5, y6, z1, z2⟩⟩
  go_wp2_with fail
  refine (unhide H33' _ hO1).mono ?_
  rintro e w2 ⟨rfl, hO2, ⟨x0, x1, y0, y1, y4, y5, y6, z1, z2⟩⟩
  go_wp2_with fail
  go_region_held3 (fun w' => w'.cell? ⟨ps, 0, none⟩ = some (.pointer (some ⟨ph, 0, none⟩)) ∧ w'.cell? ⟨b, 4, none⟩ = some (.int .i64 hh)) (go_keep) (first | (go_at_call 30; refine (unhide H30' _ (hide (unhide hO2).drew)).mono ?_; rintro e w3 ⟨rfl, hO3, ⟨x0, x1, y0, y1, y4, y5, y6, z1, z2⟩⟩) | (go_at_call 28; refine (unhide H28' _ hO3).mono ?_; rintro e w4 ⟨rfl, hO4, ⟨x0, x1, y0, y1, y4, y5, y6, z1, z2⟩⟩))
  go_wp2_with fail
  go_region_held3 (fun w' => w'.cell? ⟨ps, 1, none⟩ = some (.slice (some ⟨gN, 0, none⟩) nN cN) ∧ w'.cell? ⟨gN, i * 3 + 1, none⟩ = some (.slice ar lr cr) ∧ w'.cell? ⟨gN, i * 3 + 2, none⟩ = some (.slice aw lw cw)) (go_keep) (fail)
  subst har
  have d2 : decide ((lw : Int) = 0) = false := decide_eq_false (by omega)
  have i3 : (0 : Int) ≤ (k : Nat) := by omega
  have i4 : (k : Int) < (lw : Nat) := by omega
  have w1' : IntKind.i64.wrap ((lr : Int) + (k : Nat)) = (lr : Int) + (k : Nat) := wrap_small _ (by omega) (by omega)
  go_wp2_with fail
  go_region_held3 (fun w' => w'.cell? ⟨ps, 0, none⟩ = some (.pointer (some ⟨ph, 0, none⟩)) ∧ w'.cell? ⟨b, 1, none⟩ = some (.int .i64 A) ∧ w'.cell? ⟨b, 6, none⟩ = some (.int .u64 (vv : Nat))) (go_keep) (first | (go_at_call 58; refine (unhide H58' _).mono ?_; rintro e w9 ⟨rfl, hw9⟩; obtain rfl := hw9.symm) | (go_at_call 26; refine (unhide H26' _ (hide ((unhide hO4).drew.drew))).mono ?_; rintro e wa ⟨rfl, ⟨x0, x1, y0, y1, y4, y5, y6, z1, z2⟩, ⟨xb, u1⟩, u2, hG⟩))
  go_wp2_with fail
  go_region_held3 (fun w' => w'.cell? ⟨ps, 1, none⟩ = some (.slice (some ⟨gN, 0, none⟩) nN cN) ∧ w'.cell? ⟨gN, i * 3 + 2, none⟩ = some (.slice (some ⟨ga, 0, none⟩) lw cw) ∧ w'.cell? ⟨b, 1, none⟩ = some (.int .i64 A) ∧ w'.cell? ⟨b, 6, none⟩ = some (.int .u64 (vv : Nat))) (go_keep) (first | (go_at_call 58; refine (unhide H58' _).mono ?_; rintro e w9 ⟨rfl, hw9⟩; obtain rfl := hw9.symm))
  go_wp2_with fail
  go_ret
  exact ⟨rfl, unhide HR' _ (unhide hG) _ ((Still.refl _).drew _)⟩
end Go.Proofs.YtidfllgaeiopjaaGreat
namespace Go.Proofs.YtidfllgaeiopjaaGreat
open Go.ChangeShapes Go.WideShapes Go.ChangeAt Go.RowKit
set_option linter.unusedVariables false
set_option linter.unusedSimpArgs false
set_option maxRecDepth 100000
set_option maxHeartbeats 1000000


theorem changes_link {w : World} {ps ph : Nat} (A B Cc hh gg : Int) (vv : Nat) (dv : Value) {hn : Int} {gN nN cN lr lw i ref : Nat} {ar aw : Option Addr} {cr cw : Nat} (c0 : w.cell? ⟨ps, 0, none⟩ = some (.pointer (some ⟨ph, 0, none⟩)))
    (c1 : w.cell? ⟨ps, 1, none⟩ = some (.slice (some ⟨gN, 0, none⟩) nN cN)) (hi : i < nN) (hi2 : nN ≤ 1000000) (h1 : 1 ≤ i)
    (n1 : w.cell? ⟨gN, i * 3 + 1, none⟩ = some (.slice ar lr cr)) (n2 : w.cell? ⟨gN, i * 3 + 2, none⟩ = some (.slice aw lw cw)) (hlr : lr ≤ 1048576) (hlw : lw ≤ 1048576)
    (H30 : ∀ W, Below (w.heap.size + 1) (w.alloc (mvB 2 A B Cc hh gg vv dv)) W → Calls Tryz.prog 30 #[.pointer (some ⟨ps, 0, none⟩), .int .i64 hh] W fun e w' => e = .returned (.int .i64 hn) ∧ Still W w')
    (H33 : ∀ W, Below (w.heap.size + 1) (w.alloc (mvB 2 A B Cc hh gg vv dv)) W → Calls Tryz.prog 33 #[.pointer (some ⟨ps, 0, none⟩), .int .i64 hn] W fun e w' => e = .returned (.int .i64 (i : Nat)) ∧ Still W w')
    (H28 : ∀ W, Below (w.heap.size + 1) (w.alloc (mvB 2 A B Cc hh gg vv dv)) W → Calls Tryz.prog 28 #[.pointer (some ⟨ph, 0, none⟩), .int .i64 hn] W fun e w' => e = .returned (.tuple #[.int .u64 (ref : Nat), .int .i64 0]) ∧ Below W.heap.size W w')
    {hg tn : Int} (H30g : ∀ W, Below (w.heap.size + 1) (w.alloc (mvB 2 A B Cc hh gg vv dv)) W → Calls Tryz.prog 30 #[.pointer (some ⟨ps, 0, none⟩), .int .i64 gg] W fun e w' => e = .returned (.int .i64 hg) ∧ Still W w')
    (H33g : ∀ W, Below (w.heap.size + 1) (w.alloc (mvB 2 A B Cc hh gg vv dv)) W → Calls Tryz.prog 33 #[.pointer (some ⟨ps, 0, none⟩), .int .i64 hg] W fun e w' => e = .returned (.int .i64 tn) ∧ Still W w') {tn' v k ga : Nat} {xa : Value} {G : World → Prop} (hlr0 : 0 < lr) (htn : tn = (tn' : Nat)) (har : ar = some ⟨ga, 0, none⟩) (hk : k < lr) (ca : w.cell? ⟨ga, k, none⟩ = some xa) (fa : w.frozen? ⟨ga, k, none⟩ = false) (np : ga ≠ ps) (nn : ga ≠ gN)
    (H28g : ∀ W, Below (w.heap.size + 1) (w.alloc (mvB 2 A B Cc hh gg vv dv)) W → Calls Tryz.prog 28 #[.pointer (some ⟨ph, 0, none⟩), .int .i64 hg] W fun e w' => e = .returned (.tuple #[.int .u64 (v : Nat), .int .i64 0]) ∧ Below W.heap.size W w')
    (H58 : ∀ W, Calls Tryz.prog 58 #[.int .i64 A, .int .i64 (lr : Nat)] W fun e w' => e = .returned (.int .i64 (k : Nat)) ∧ w' = W)
    (H26 : ∀ W, Below (w.heap.size + 1) (w.alloc (mvB 2 A B Cc hh gg vv dv)) W → Calls Tryz.prog 26 #[.pointer (some ⟨ph, 0, none⟩), .int .u64 (ref : Nat), .int .i64 (k : Nat), .int .u64 (v : Nat)] W fun e w' => e = .returned (.int .i64 0) ∧ w'.heap[ps]? = W.heap[ps]? ∧ w'.heap[gN]? = W.heap[gN]? ∧ w'.heap[w.heap.size]? = W.heap[w.heap.size]? ∧ w'.heap[ga]? = W.heap[ga]? ∧ G w') {R : World → Prop} (HR : ∀ w5, G w5 → ∀ W, Still (w5.setCell ⟨ga, k, none⟩ (.int .i64 (tn' : Nat))) W → R W) :
    Calls Tryz.prog 32 #[.pointer (some ⟨ps, 0, none⟩), mvV 2 A B Cc hh gg vv dv] w fun e w' => e = .returned (.bool true) ∧ R w' := by
  have hpl := block_lt_of_cell c0
  have hgl := block_lt_of_cell n1
  have hb : Below w.heap.size w (w.alloc (mvB 2 A B Cc hh gg vv dv)) := (Below.refl _ _).alloc (Nat.le_refl _) _
  have hsz : (w.alloc (mvB 2 A B Cc hh gg vv dv)).heap.size = w.heap.size + 1 := by simp
  have bx := Boxed.new w 2 A B Cc hh gg vv dv
  have L0 : Limbs ps ph w.heap.size gN nN cN i 2 A hh gg vv (.slice ar lr cr) (.slice aw lw cw) (w.alloc (mvB 2 A B Cc hh gg vv dv)) := ⟨(hb.cell (p := ⟨ps, 0, none⟩) hpl).trans c0, (hb.cell (p := ⟨ps, 1, none⟩) hpl).trans c1, bx.m0, bx.m1, bx.m4, bx.m5, bx.m6, (hb.cell (p := ⟨gN, i * 3 + 1, none⟩) hgl).trans n1, (hb.cell (p := ⟨gN, i * 3 + 2, none⟩) hgl).trans n2⟩
  have hL : ∀ W, Below (w.heap.size + 1) (w.alloc (mvB 2 A B Cc hh gg vv dv)) W → Limbs ps ph w.heap.size gN nN cN i 2 A hh gg vv (.slice ar lr cr) (.slice aw lw cw) W := fun W k => L0.on (by rw [hsz]; exact k)
  have hOn : ∀ W w', Below (w.heap.size + 1) (w.alloc (mvB 2 A B Cc hh gg vv dv)) W → Below W.heap.size W w' → Below (w.heap.size + 1) (w.alloc (mvB 2 A B Cc hh gg vv dv)) w' := fun W w' k q => k.trans (q.mono (by have := k.size; rw [hsz] at this; exact this))
  have H30' : Hid (∀ W, Hid (Below (w.heap.size + 1) (w.alloc (mvB 2 A B Cc hh gg vv dv)) W) → Calls Tryz.prog 30 #[.pointer (some ⟨ps, 0, none⟩), .int .i64 hh] W fun e w' => e = .returned (.int .i64 hn) ∧ Hid (Below (w.heap.size + 1) (w.alloc (mvB 2 A B Cc hh gg vv dv)) w') ∧ Limbs ps ph w.heap.size gN nN cN i 2 A hh gg vv (.slice ar lr cr) (.slice aw lw cw) w') := hide (fun W hW => (H30 W (unhide hW)).mono fun e w' ⟨q1, q2⟩ => ⟨q1, hide (hOn W w' (unhide hW) q2.below), hL w' (hOn W w' (unhide hW) q2.below)⟩)
  have H33' : Hid (∀ W, Hid (Below (w.heap.size + 1) (w.alloc (mvB 2 A B Cc hh gg vv dv)) W) → Calls Tryz.prog 33 #[.pointer (some ⟨ps, 0, none⟩), .int .i64 hn] W fun e w' => e = .returned (.int .i64 (i : Nat)) ∧ Hid (Below (w.heap.size + 1) (w.alloc (mvB 2 A B Cc hh gg vv dv)) w') ∧ Limbs ps ph w.heap.size gN nN cN i 2 A hh gg vv (.slice ar lr cr) (.slice aw lw cw) w') := hide (fun W hW => (H33 W (unhide hW)).mono fun e w' ⟨q1, q2⟩ => ⟨q1, hide (hOn W w' (unhide hW) q2.below), hL w' (hOn W w' (unhide hW) q2.below)⟩)
  have H28' : Hid (∀ W, Hid (Below (w.heap.size + 1) (w.alloc (mvB 2 A B Cc hh gg vv dv)) W) → Calls Tryz.prog 28 #[.pointer (some ⟨ph, 0, none⟩), .int .i64 hn] W fun e w' => e = .returned (.tuple #[.int .u64 (ref : Nat), .int .i64 0]) ∧ Hid (Below (w.heap.size + 1) (w.alloc (mvB 2 A B Cc hh gg vv dv)) w') ∧ Limbs ps ph w.heap.size gN nN cN i 2 A hh gg vv (.slice ar lr cr) (.slice aw lw cw) w') := hide (fun W hW => (H28 W (unhide hW)).mono fun e w' ⟨q1, q2⟩ => ⟨q1, hide (hOn W w' (unhide hW) q2), hL w' (hOn W w' (unhide hW) q2)⟩)
  have H30g' : Hid (∀ W, Hid (Below (w.heap.size + 1) (w.alloc (mvB 2 A B Cc hh gg vv dv)) W) → Calls Tryz.prog 30 #[.pointer (some ⟨ps, 0, none⟩), .int .i64 gg] W fun e w' => e = .returned (.int .i64 hg) ∧ Hid (Below (w.heap.size + 1) (w.alloc (mvB 2 A B Cc hh gg vv dv)) w') ∧ Limbs ps ph w.heap.size gN nN cN i 2 A hh gg vv (.slice ar lr cr) (.slice aw lw cw) w') := hide (fun W hW => (H30g W (unhide hW)).mono fun e w' ⟨q1, q2⟩ => ⟨q1, hide (hOn W w' (unhide hW) q2.below), hL w' (hOn W w' (unhide hW) q2.below)⟩)
  have H33g' : Hid (∀ W, Hid (Below (w.heap.size + 1) (w.alloc (mvB 2 A B Cc hh gg vv dv)) W) → Calls Tryz.prog 33 #[.pointer (some ⟨ps, 0, none⟩), .int .i64 hg] W fun e w' => e = .returned (.int .i64 tn) ∧ Hid (Below (w.heap.size + 1) (w.alloc (mvB 2 A B Cc hh gg vv dv)) w') ∧ Limbs ps ph w.heap.size gN nN cN i 2 A hh gg vv (.slice ar lr cr) (.slice aw lw cw) w') := hide (fun W hW => (H33g W (unhide hW)).mono fun e w' ⟨q1, q2⟩ => ⟨q1, hide (hOn W w' (unhide hW) q2.below), hL w' (hOn W w' (unhide hW) q2.below)⟩)
  have H28g' : Hid (∀ W, Hid (Below (w.heap.size + 1) (w.alloc (mvB 2 A B Cc hh gg vv dv)) W) → Calls Tryz.prog 28 #[.pointer (some ⟨ph, 0, none⟩), .int .i64 hg] W fun e w' => e = .returned (.tuple #[.int .u64 (v : Nat), .int .i64 0]) ∧ Hid (Below (w.heap.size + 1) (w.alloc (mvB 2 A B Cc hh gg vv dv)) w') ∧ Limbs ps ph w.heap.size gN nN cN i 2 A hh gg vv (.slice ar lr cr) (.slice aw lw cw) w') := hide (fun W hW => (H28g W (unhide hW)).mono fun e w' ⟨q1, q2⟩ => ⟨q1, hide (hOn W w' (unhide hW) q2), hL w' (hOn W w' (unhide hW) q2)⟩)
  have hgal : ga < w.heap.size := block_lt_of_cell ca
  have H26' : Hid (∀ W, Hid (Below (w.heap.size + 1) (w.alloc (mvB 2 A B Cc hh gg vv dv)) W) → Calls Tryz.prog 26 #[.pointer (some ⟨ph, 0, none⟩), .int .u64 (ref : Nat), .int .i64 (k : Nat), .int .u64 (v : Nat)] W fun e w' => e = .returned (.int .i64 0) ∧ Limbs ps ph w.heap.size gN nN cN i 2 A hh gg vv (.slice ar lr cr) (.slice aw lw cw) w' ∧ (∃ xa, w'.cell? ⟨ga, k, none⟩ = some xa) ∧ w'.frozen? ⟨ga, k, none⟩ = false ∧ Hid (G w')) := hide (fun W hW => (H26 W (unhide hW)).mono fun e w' ⟨q1, q2, q3, q4, q5, q6⟩ => by
    have hl := hL W (unhide hW)
    have ew : W.heap[ga]? = w.heap[ga]? := ((unhide hW).block ga (by omega)).trans (hb.block ga hgal)
    refine ⟨q1, ⟨?_, ?_, ?_, ?_, ?_, ?_, ?_, ?_, ?_⟩, ⟨xa, ?_⟩, ?_, hide q6⟩
    · rw [← hl.c0]; simp only [World.cell?, q2]
    · rw [← hl.c1]; simp only [World.cell?, q2]
    · rw [← hl.m0]; simp only [World.cell?, q4]
    · rw [← hl.m1]; simp only [World.cell?, q4]
    · rw [← hl.m4]; simp only [World.cell?, q4]
    · rw [← hl.m5]; simp only [World.cell?, q4]
    · rw [← hl.m6]; simp only [World.cell?, q4]
    · rw [← hl.n1]; simp only [World.cell?, q3]
    · rw [← hl.n2]; simp only [World.cell?, q3]
    · rw [← ca]; simp only [World.cell?, q5, ew]
    · rw [← fa]; simp only [World.frozen?, q5, ew])
  have ne1 : ga ≠ w.heap.size := Nat.ne_of_lt hgal
  have H58' := hide H58
  have HR' := hide HR
  have hO0 : Hid (Below (w.heap.size + 1) (w.alloc (mvB 2 A B Cc hh gg vv dv)) (w.alloc (mvB 2 A B Cc hh gg vv dv))) := hide (Below.refl _ _)
  obtain ⟨x0, x1, y0, y1, y4, y5, y6, z1, z2⟩ := L0
  have d1 : decide ((i : Int) < 1) = false := decide_eq_false (by omega)
  have i1 : (0 : Int) ≤ (i : Nat) := by omega
  have i2 : (i : Int) < (nN : Nat) := by omega
  clear H30 H33 H28 hOn hL hb hsz bx c0 c1 n1 n2 H30g H33g H28g H26 H58 HR ca fa
  unfold mvV
  unfold mvB at H30' H33' H28' hO0 x0 x1 y0 y1 y4 y5 y6 z1 z2 H30g' H33g' H28g' H26'
  generalize hW : World.alloc w _ = W0 at *
  generalize hB : w.heap.size = b at *
  go_enter Tryz.func32, Tryz.ntmps32
  go_wp2_with fail
  (try rw [hW]); (try rw [hB])
  refine (unhide H30' _ hO0).mono ?_
  rintro e w1 ⟨rfl, hO1, ⟨x0, x1, y0, y1, y4, y5, y6, z1, z2⟩⟩
  go_wp2_with fail
  refine (unhide H33' _ hO1).mono ?_
  rintro e w2 ⟨rfl, hO2, ⟨x0, x1, y0, y1, y4, y5, y6, z1, z2⟩⟩
  go_wp2_with fail
  go_region_held3 (fun w' => w'.cell? ⟨ps, 0, none⟩ = some (.pointer (some ⟨ph, 0, none⟩)) ∧ w'.cell? ⟨b, 4, none⟩ = some (.int .i64 hh)) (go_keep) (first | (go_at_call 30; refine (unhide H30' _ (hide (unhide hO2).drew)).mono ?_; rintro e w3 ⟨rfl, hO3, ⟨x0, x1, y0, y1, y4, y5, y6, z1, z2⟩⟩) | (go_at_call 28; refine (unhide H28' _ hO3).mono ?_; rintro e w4 ⟨rfl, hO4, ⟨x0, x1, y0, y1, y4, y5, y6, z1, z2⟩⟩))
  go_wp2_with fail
  go_region_held3 (fun w' => w'.cell? ⟨ps, 1, none⟩ = some (.slice (some ⟨gN, 0, none⟩) nN cN) ∧ w'.cell? ⟨gN, i * 3 + 1, none⟩ = some (.slice ar lr cr) ∧ w'.cell? ⟨gN, i * 3 + 2, none⟩ = some (.slice aw lw cw)) (go_keep) (fail)
  go_wp2_with fail
  refine (unhide H30g' _ (hide (unhide hO4).drew)).mono ?_
  rintro e w5 ⟨rfl, hO5, ⟨x0, x1, y0, y1, y4, y5, y6, z1, z2⟩⟩
  go_wp2_with fail
  refine (unhide H33g' _ hO5).mono ?_
  rintro e w6 ⟨rfl, hO6, ⟨x0, x1, y0, y1, y4, y5, y6, z1, z2⟩⟩
  subst htn har
  have d2 : decide ((lr : Int) = 0) = false := decide_eq_false (by omega)
  have d3 : decide ((tn' : Int) < 0) = false := decide_eq_false (by omega)
  have i3 : (0 : Int) ≤ (k : Nat) := by omega
  have i4 : (k : Int) < (lr : Nat) := by omega
  go_wp2_with fail
  go_region_held3 (fun w' => w'.cell? ⟨ps, 0, none⟩ = some (.pointer (some ⟨ph, 0, none⟩)) ∧ w'.cell? ⟨b, 5, none⟩ = some (.int .i64 gg)) (go_keep) (first | (go_at_call 30; refine (unhide H30g' _ (hide (unhide hO6).drew)).mono ?_; rintro e w7 ⟨rfl, hO7, ⟨x0, x1, y0, y1, y4, y5, y6, z1, z2⟩⟩) | (go_at_call 28; refine (unhide H28g' _ hO7).mono ?_; rintro e w8 ⟨rfl, hO8, ⟨x0, x1, y0, y1, y4, y5, y6, z1, z2⟩⟩))
  go_wp2_with fail
  go_region_held3 (fun w' => w'.cell? ⟨ps, 0, none⟩ = some (.pointer (some ⟨ph, 0, none⟩)) ∧ w'.cell? ⟨b, 1, none⟩ = some (.int .i64 A)) (go_keep) (first | (go_at_call 58; refine (unhide H58' _).mono ?_; rintro e w9 ⟨rfl, hw9⟩; obtain rfl := hw9.symm) | (go_at_call 26; refine (unhide H26' _ (hide (unhide hO8).drew)).mono ?_; rintro e wa ⟨rfl, ⟨x0, x1, y0, y1, y4, y5, y6, z1, z2⟩, ⟨xb, u1⟩, u2, hG⟩))
  go_wp2_with fail
  go_region_held3 (fun w' => w'.cell? ⟨ps, 1, none⟩ = some (.slice (some ⟨gN, 0, none⟩) nN cN) ∧ w'.cell? ⟨gN, i * 3 + 1, none⟩ = some (.slice (some ⟨ga, 0, none⟩) lr cr) ∧ w'.cell? ⟨b, 1, none⟩ = some (.int .i64 A)) (go_keep) (first | (go_at_call 58; refine (unhide H58' _).mono ?_; rintro e w9 ⟨rfl, hw9⟩; obtain rfl := hw9.symm))
  go_wp2_with fail
  go_ret
  exact ⟨rfl, unhide HR' _ (unhide hG) _ ((Still.refl _).drew _)⟩
end Go.Proofs.YtidfllgaeiopjaaGreat
namespace Go.Proofs.YtidfllgaeiopjaaGreat
open Go.ChangeShapes Go.WideShapes Go.ChangeAt Go.RowKit
set_option linter.unusedVariables false
set_option maxRecDepth 100000
set_option maxHeartbeats 1000000

theorem HAt.raw64 {w : World} {ph : Nat} {tag : Nat → Nat} {M : Hp} {H : HC} (h : HAt w ph tag M H) {i : Nat} (hi : Is M i) : W64 (ob M i).raws ∧ (ob M i).refs.length ≤ 1048576 ∧ (ob M i).raws.length ≤ 1048576 := by
  obtain ⟨p1, p2, p3⟩ := num_back h.wf.ok hi
  rcases found_any h (refW M i) p2 with ⟨t, q, a, R, j, f⟩ | ⟨h0, _⟩
  · rw [p1] at f
    have o := f.ar.ok
    have fl := flds_le o j f.hj
    rw [f.sh] at fl
    refine ⟨fun k => ?_, fl.1, fl.2.1⟩
    rw [← f.raws]
    unfold rawsOf
    rw [getD_dropped]
    exact o.sm j _
  · rw [p1] at h0
    rcases hi with hi | ⟨hi, _⟩
    · exact absurd h0 (h.wf.ok.s1 i hi).1
    · exact absurd h0 hi

/-- what a handle holds, as the shadow's held tells it -/
theorem held_cases (hd : List (Option Nat)) (x : Int) : (heldV hd x = -1) ∨ ∃ m i, x = (m : Nat) + 1 ∧ m < hd.length ∧ hd.getD m none = some i ∧ heldV hd x = (i : Nat) := by
  unfold heldV
  by_cases h : 1 ≤ x ∧ x ≤ (hd.length : Nat)
  · rw [if_pos h]
    obtain ⟨m, hm⟩ : ∃ m : Nat, x = (m : Nat) + 1 := ⟨(x - 1).toNat, by omega⟩
    have e : (x - 1).toNat = m := by omega
    rw [e]
    cases hq : hd.getD m none with
    | none => exact .inl rfl
    | some i => exact .inr ⟨m, i, hm, by omega, hq, rfl⟩
  · rw [if_neg h]; exact .inl rfl

structure Held (M : Hp) (ns : List (Nat × List Nat × List Nat)) (i : Nat) : Prop where
  is : Is M i
  ln : i < ns.length
  dt : ns.getD i (0, [], []) = dat (ob M i)
  nb : numOf M (refW M i) = i
  lt : refW M i < 18446744073709551616
theorem Both0.held {w0 : Kp} {w : World} {ps ph : Nat} {tag st : Nat → Nat} {M : Hp} {H : HC} {ns : List (Nat × List Nat × List Nat)} {limit last : Nat} {C : ShC} (b : Both0 w0 w ps ph tag st M H ns limit last C) {m i : Nat} (hm : m < M.roots.length) (hi : M.roots.getD m none = some i) (h1 : 1 ≤ i) : Held M ns i := by
  have hmem : some i ∈ M.roots := by
    rw [List.getD_eq_getElem?_getD, List.getElem?_eq_getElem hm] at hi
    have : M.roots[m] = some i := hi
    rw [← this]; exact List.getElem_mem hm
  have his : Is M i := by
    rcases b.he.wf.ok.rt i hmem with e | e
    · omega
    · exact e
  obtain ⟨p1, p2, _⟩ := num_back b.he.wf.ok his
  exact ⟨his, by rw [b.gr.ln]; exact b.he.wf.ln i his, b.gr.dt i his, p1, p2⟩
theorem at_held {w : World} {ph : Nat} {tag : Nat → Nat} {M : Hp} {H : HC} (h : HAt w ph tag M H) (hl : M.roots.length ≤ 1000000) {m i : Nat} (hm : m < M.roots.length) (hi : M.roots.getD m none = some i) :
    Calls Tryz.prog 28 #[.pointer (some ⟨ph, 0, none⟩), .int .i64 ((m : Nat) + 1)] w fun e w' => e = .returned (.tuple #[.int .u64 (refW M i : Nat), .int .i64 0]) ∧ Below w.heap.size w w' := by
  have := hatM_any h ((m : Nat) + 1) (by omega) (by omega)
  have e : handR M ((m : Nat) + 1) = some i := by
    unfold handR poolGet
    rw [if_pos (by omega), show ((m : Int) + 1 - 1).toNat = m by omega]
    exact hi
  rw [e] at this
  exact this
end Go.Proofs.YtidfllgaeiopjaaGreat
