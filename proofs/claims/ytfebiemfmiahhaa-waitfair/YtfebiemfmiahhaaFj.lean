/- WaitFair: a turn that blocks. -/
import Derived.Test.YtfebiemfmiahhaaFi
namespace Go.Proofs.Ytfebiemfmiahhaa
open Go.ChangeShapes Go.WideShapes Go.ChangeAt Go.RowKit Go.Maps
set_option linter.unusedVariables false
set_option linter.unusedSimpArgs false
set_option maxRecDepth 100000
set_option maxHeartbeats 8000000
theorem cell_four56 (w : World) (a b c d : Value) : ∀ j u, [a, b, c, d][j]? = some u → (w.alloc (.cells #[a, b, c, d] 56)).cell? ((⟨w.heap.size, 0, none⟩ : Addr).add j) = some u := cell_four_new w a b c d 56
theorem turn_block (w0 : World) (X : Nat → Obj → Prop) (w : World) (p T : Nat) (va : Option Addr) (m vc : Nat) (A : List Ax) (o : Tu) (ho : TuOk w0 o) (hno : NoBk X) (hact : o.act = 0) (hT : T < 1099511627776) (hm : m = A.length) (h : Fx w0 X w p T (.slice va m vc) A) :
    Calls Try.prog 18 #[.pointer (some ⟨p, 0, none⟩), .slice va m vc, .agg (tuC o).toArray] w fun e w' => TurnEnd w0 X p T e w' := by
  obtain ⟨act, conn, kind, a, cap, pl, time, n⟩ := o
  obtain rfl : act = 0 := hact
  have hm8 : m ≤ 8 := by rw [hm]; exact h.few
  have H0 := hide (turn_box ⟨0, conn, kind, a, cap, pl, time, n⟩ h)
  have HM := hide hm
  obtain ⟨X1, hX1⟩ : ∃ X1, X1 = XB X w.heap.size (.cells (tuC ⟨0, conn, kind, a, cap, pl, time, n⟩).toArray 52 (0, 0)) := ⟨_, rfl⟩
  rw [← hX1] at H0
  have HXd : Hid (∀ w' T' v' A', Fx w0 X1 w' p T' v' A' → Fx w0 X w' p T' v' A') := hide fun w' T' v' A' q => by rw [hX1] at q; exact q.drop
  have HXc : Hid (∀ w' : World, (∀ b x, X1 b x → w'.heap[b]? = some x) → w'.cell? ⟨w.heap.size, 0, none⟩ = some (.int .i64 0) ∧ w'.cell? ⟨w.heap.size, 1, none⟩ = some (.int .i64 conn) ∧ w'.cell? ⟨w.heap.size, 2, none⟩ = some (.int .i64 kind) ∧ w'.cell? ⟨w.heap.size, 3, none⟩ = some (.slice a pl.length cap) ∧ w'.cell? ⟨w.heap.size, 4, none⟩ = some (.int .u64 (time : Nat))) := hide fun w' q => by
    have := q w.heap.size _ (by rw [hX1]; exact .inr ⟨rfl, rfl⟩)
    exact ⟨cell_blk this 0, cell_blk this 1, cell_blk this 2, cell_blk this 3, cell_blk this 4⟩
  have HNB : Hid (NoBk X1) := hide fun b x hx cs fr e => by
    rw [hX1] at hx
    rcases hx with hx | ⟨-, hx⟩
    · exact hno b x hx cs fr e
    · rw [hx] at e; cases e
  clear h hm hX1 hno
  obtain ⟨w1, hw1⟩ : ∃ w1, w.alloc (.cells #[.int .i64 0, .int .i64 conn, .int .i64 kind, .slice a pl.length cap, .int .u64 (time : Nat), .int .i64 n] 52) = w1 := ⟨_, rfl⟩
  have H1 : Hid (Fx w0 X1 w1 p T (.slice va m vc) A) := hide (by rw [← hw1]; exact unhide H0)
  clear H0
  obtain ⟨z0, z1, z2, z3, z4⟩ := unhide HXc _ (unhide H1).xw
  have C17 : Hid (Calls Try.prog 17 #[.slice a pl.length cap] w1.drew fun e w' => ∃ a' cap', e = .returned (.slice a' pl.length cap') ∧ w'.cell? ⟨w.heap.size, 1, none⟩ = some (.int .i64 conn) ∧ w'.cell? ⟨w.heap.size, 2, none⟩ = some (.int .i64 kind) ∧ w'.cell? ⟨w.heap.size, 3, none⟩ = some (.slice a pl.length cap) ∧ w'.cell? ⟨w.heap.size, 4, none⟩ = some (.int .u64 (time : Nat)) ∧ Hid (PlsAt w' a' pl ∧ Fx w0 X1 w' p T (.slice va m vc) A)) := hide (by
    have q := (unhide H1).below (w' := w1.drew) ⟨rfl, rfl, rfl, Nat.le_refl _, fun _ _ => rfl⟩
    have ho' := ho.below q.bel
    refine (twin_any w1.drew a cap pl ho'.pls ho'.nil ho'.len).mono ?_
    rintro e w' ⟨a', cap', rfl, -, H⟩
    obtain ⟨k1, k2⟩ := unhide H
    have q2 := q.below k2
    obtain ⟨-, c1, c2, c3, c4⟩ := unhide HXc _ q2.xw
    exact ⟨a', cap', rfl, c1, c2, c3, c4, hide ⟨k1, q2⟩⟩)
  have C16 : Hid (∀ (w7 : World) (a' : Option Addr) (cap' : Nat), Hid (PlsAt w7 a' pl ∧ Fx w0 X1 w7 p T (.slice va m vc) A) → Calls Try.prog 16 #[.pointer (some ⟨p, 0, none⟩), .int .i64 conn, .int .i64 kind, .slice a' pl.length cap', .int .u64 (time : Nat)] w7 fun e w' => ∃ r, e = .returned (.int .i64 r) ∧ w'.cell? ⟨w.heap.size, 1, none⟩ = some (.int .i64 conn) ∧ w'.cell? ⟨w.heap.size, 2, none⟩ = some (.int .i64 kind) ∧ w'.cell? ⟨w.heap.size, 3, none⟩ = some (.slice a pl.length cap) ∧ w'.cell? ⟨w.heap.size, 4, none⟩ = some (.int .u64 (time : Nat)) ∧ Hid (∃ T', T' ≤ T + 1 ∧ (r ≠ 0 → Fx w0 X1 w' p T' (.slice va m vc) A) ∧ (r = 0 → 0 < pl.length ∧ ∃ cn : Nat, conn = (cn : Nat) ∧ Fp w0 X1 w' p T' (.slice va m vc) A ⟨⟨cn, kind, pl, time⟩, a, cap⟩))) := hide fun w7 a' cap' h7 => by
    obtain ⟨k1, k2⟩ := unhide h7
    refine (fx_block conn kind a' pl.length cap' pl time a cap k2 ho.conn k1 ho.pls rfl (by have := ho.len; show pl.length ≤ _; have h2 : pl.length ≤ 5864062014805 := this; omega) hT).mono ?_
    rintro e w' ⟨r, rfl, H⟩
    obtain ⟨T', k3, k4, k5, k6⟩ := unhide H
    obtain ⟨-, c1, c2, c3, c4⟩ := unhide HXc _ k6
    exact ⟨r, rfl, c1, c2, c3, c4, hide ⟨T', k3, k4, k5⟩⟩
  obtain ⟨i0, hi0, hzz⟩ := Option.map_eq_some_iff.1 info56
  simp only [Prod.mk.injEq] at hzz
  obtain ⟨hz0, hz1, hz2⟩ := hzz
  clear ho
  show Calls Try.prog 18 #[.pointer (some ⟨p, 0, none⟩), .slice va m vc, .agg #[.int .i64 0, .int .i64 conn, .int .i64 kind, .slice a pl.length cap, .int .u64 (time : Nat), .int .i64 n]] w fun e w' => TurnEnd w0 X p T e w'
  go_enter Try.func18, Try.ntmps18
  go_wp2_with fail
  clear hw1
  go_wp2_with fail
  go_region_held3 (fun W => W.cell? ⟨w.heap.size, 1, none⟩ = some (.int .i64 conn) ∧ W.cell? ⟨w.heap.size, 2, none⟩ = some (.int .i64 kind) ∧ W.cell? ⟨w.heap.size, 3, none⟩ = some (.slice a pl.length cap) ∧ W.cell? ⟨w.heap.size, 4, none⟩ = some (.int .u64 (time : Nat))) (go_keep) (first
    | (go_at_call 17; refine (unhide C17).mono ?_; rintro e w7 ⟨a', cap', rfl, v1, v2, v3, v4, H7⟩)
    | (go_at_call 16; refine (unhide C16 _ _ _ H7).mono ?_; rintro e w8 ⟨r, rfl, u1, u2, u3, u4, H8⟩))
  all_goals clear C17 C16 z0 z1 z2 z3 z4
  by_cases hr : r = 0
  · subst hr
    obtain ⟨T', t1, -, t2⟩ := unhide H8
    obtain ⟨t3, cn, rfl, t4⟩ := t2 rfl
    have HP := hide t4
    have HT := hide t1
    have g1 : decide ((0 : Int) < (pl.length : Int)) = true := decide_eq_true (by omega)
    have g2 : decide (0 < pl.length) = true := decide_eq_true (by omega)
    have hrw : (w8.alloc (.cells #[.int .i64 (cn : Nat), .int .i64 kind, .slice a pl.length cap, .int .u64 (time : Nat)] 56)).ownsRow w0.heap.size 56 4 (.slice va m vc) m (A.flatMap axC) := by
      have := World.ownsRow.alloc t4.own (.cells #[.int .i64 (cn : Nat), .int .i64 kind, .slice a pl.length cap, .int .u64 (time : Nat)] 56)
      rw [← unhide HM] at this
      exact this
    have hsz : w0.heap.size ≤ w8.heap.size + 1 := by
      obtain ⟨O, E, q, -⟩ := t4.ex
      have := q.bel.size
      omega
    clear t1 t2 t4 H8
    go_wp2_with (first
      | (at_builtin; go_must (refine wpList_append_own_at _ rfl _ _ 48 rfl w0.heap.size 56 i0 _ 4 48 Try.underlying48 hi0 hz0 hz1 hz2 rfl (by decide) (.slice va m vc) m (A.flatMap axC) rfl hrw ⟨w8.heap.size, 0, none⟩ 1 1 [.int .i64 (cn : Nat), .int .i64 kind, .slice a pl.length cap, .int .u64 (time : Nat)] rfl rfl (cell_four56 _ _ _ _ _) (by simp [Value.oneCell']) (by unfold maxLen; omega) (by omega) (by simp; omega) ?_); intro v' w9 hown' hg7 hnil7 hat7; have H9 := hide (And.intro hown' (And.intro hg7 hat7)); clear hown' hg7 hnil7 hat7 hrw; go_frame))
    have hfx := fp_push (unhide HNB) (unhide HP) ((Below.refl w8.heap.size w8).alloc (Nat.le_refl _) (.cells #[.int .i64 (cn : Nat), .int .i64 kind, .slice a pl.length cap, .int .u64 (time : Nat)] 56)) (by have := (unhide H9).1; rw [unhide HM] at this; exact this) (unhide H9).2.1 (unhide H9).2.2
    obtain ⟨va9, vc9, rfl, -⟩ := own_shape (unhide H9).1
    have HF := hide hfx
    obtain ⟨-, -, -, y3, -⟩ := unhide HXc _ hfx.xw
    clear hfx u1 u2 u3 u4
    go_wp2_with fail
    go_quiet (fail)
    go_wp2_with fail
    go_ret2
    exact ⟨_, _, _, rfl, hide ⟨_, T', unhide HT, by rw [List.length_append, ← unhide HM]; rfl, unhide HXd _ _ _ _ ((unhide HF).below (below_drewN (Below.refl _ _) _))⟩⟩
  · have f1 : (r == 0) = false := by simpa using hr
    have f2 : (r != 0) = true := by simpa using hr
    obtain ⟨T', t1, t2, -⟩ := unhide H8
    have HT := hide t1
    have HF := hide (t2 hr)
    clear t1 t2 H8 hr
    go_wp2_with fail
    go_quiet (fail)
    go_wp2_with fail
    go_ret2
    exact ⟨_, _, _, rfl, hide ⟨A, T', unhide HT, unhide HM, unhide HXd _ _ _ _ ((unhide HF).below (below_drewN (Below.refl _ _) _))⟩⟩
end Go.Proofs.Ytfebiemfmiahhaa
