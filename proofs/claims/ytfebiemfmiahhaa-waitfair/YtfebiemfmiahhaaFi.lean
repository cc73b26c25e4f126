/- WaitFair: a turn. -/
import Derived.Test.YtfebiemfmiahhaaFh
import Derived.Deep.RegionHeld3
namespace Go.Proofs.Ytfebiemfmiahhaa
open Go.ChangeShapes Go.WideShapes Go.ChangeAt Go.RowKit Go.Maps
set_option linter.unusedVariables false
set_option linter.unusedSimpArgs false
set_option maxRecDepth 100000
set_option maxHeartbeats 8000000
theorem TuOk.below {W W' : World} {o : Tu} (h : TuOk W o) (hb : Below W.heap.size W W') : TuOk W' o := ⟨h.pls.below hb, h.nil, h.len, h.conn, h.pok⟩
/-- how a turn ends -/
def TurnEnd (w0 : World) (X : Nat → Obj → Prop) (p T : Nat) (e : Ending) (w' : World) : Prop := ∃ va' m' vc', e = .returned (.tuple #[.slice va' m' vc', .bool true]) ∧ Hid (∃ A' T', T' ≤ T + 1 ∧ m' = A'.length ∧ Fx w0 X w' p T' (.slice va' m' vc') A')
theorem turn_box {w0 w : World} {X : Nat → Obj → Prop} {p T : Nat} {v : Value} {A : List Ax} (o : Tu) (h : Fx w0 X w p T v A) : Fx w0 (XB X w.heap.size (.cells (tuC o).toArray 52 (0, 0))) (w.alloc (.cells (tuC o).toArray 52)) p T v A :=
  h.more ((Below.refl _ _).alloc (Nat.le_refl _) _) (Nat.le_refl _) (heap_alloc_new _ _)
theorem turn_serve (w0 : World) (X : Nat → Obj → Prop) (w : World) (p T : Nat) (va : Option Addr) (m vc : Nat) (A : List Ax) (o : Tu) (ho : TuOk w0 o) (hact : o.act = 1) (hm : m = A.length) (h : Fx w0 X w p T (.slice va m vc) A) :
    Calls Try.prog 18 #[.pointer (some ⟨p, 0, none⟩), .slice va m vc, .agg (tuC o).toArray] w fun e w' => TurnEnd w0 X p T e w' := by
  obtain ⟨act, conn, kind, a, cap, pl, time, n⟩ := o
  obtain rfl : act = 1 := hact
  have H0 := hide (turn_box ⟨1, conn, kind, a, cap, pl, time, n⟩ h)
  have HM := hide hm
  have HO := hide ho
  obtain ⟨X1, hX1⟩ : ∃ X1, X1 = XB X w.heap.size (.cells (tuC ⟨1, conn, kind, a, cap, pl, time, n⟩).toArray 52 (0, 0)) := ⟨_, rfl⟩
  rw [← hX1] at H0
  have HXd : Hid (∀ w' T' v' A', Fx w0 X1 w' p T' v' A' → Fx w0 X w' p T' v' A') := hide fun w' T' v' A' q => by rw [hX1] at q; exact q.drop
  have HXc : Hid (∀ w' T' v' A', Fx w0 X1 w' p T' v' A' → w'.cell? ⟨w.heap.size, 0, none⟩ = some (.int .i64 1) ∧ w'.cell? ⟨w.heap.size, 2, none⟩ = some (.int .i64 kind) ∧ w'.cell? ⟨w.heap.size, 3, none⟩ = some (.slice a pl.length cap) ∧ w'.cell? ⟨w.heap.size, 5, none⟩ = some (.int .i64 n)) := hide fun w' T' v' A' q => by
    have := q.xw w.heap.size _ (by rw [hX1]; exact .inr ⟨rfl, rfl⟩)
    exact ⟨cell_blk this 0, cell_blk this 2, cell_blk this 3, cell_blk this 5⟩
  clear h hm ho hX1
  obtain ⟨w1, hw1⟩ : ∃ w1, w.alloc (.cells #[.int .i64 1, .int .i64 conn, .int .i64 kind, .slice a pl.length cap, .int .u64 (time : Nat), .int .i64 n] 52) = w1 := ⟨_, rfl⟩
  have H1 : Hid (Fx w0 X1 w1 p T (.slice va m vc) A) := hide (by rw [← hw1]; exact unhide H0)
  clear H0
  obtain ⟨z0, z2, z3, z5⟩ := unhide HXc _ _ _ _ (unhide H1)
  show Calls Try.prog 18 #[.pointer (some ⟨p, 0, none⟩), .slice va m vc, .agg #[.int .i64 1, .int .i64 conn, .int .i64 kind, .slice a pl.length cap, .int .u64 (time : Nat), .int .i64 n]] w fun e w' => TurnEnd w0 X p T e w'
  by_cases hpl : pl.length = 0
  · have f1 : ((pl.length : Int) == 0) = true := by rw [hpl]; rfl
    have HPL := hide hpl
    clear hpl
    go_enter Try.func18, Try.ntmps18
    go_wp2_with fail
    clear hw1
    go_wp2_with fail
    go_ret2
    exact ⟨_, _, _, rfl, hide ⟨A, T, by omega, unhide HM, unhide HXd _ _ _ _ (unhide H1)⟩⟩
  · have f1 : ((pl.length : Int) == 0) = false := beq_eq_false_iff_ne.2 (by omega)
    obtain ⟨x, hx⟩ : ∃ x, pl[0]? = some x := ⟨_, List.getElem?_eq_getElem (by omega)⟩
    have hpx : POk x := (unhide HO).pok x (List.mem_of_getElem? hx)
    obtain ⟨pb, po, rfl, hlt, hpc⟩ : ∃ pb po, a = some ⟨pb, po, none⟩ ∧ pb < w0.heap.size ∧ w0.cell? ⟨pb, po, none⟩ = some (.int .i64 x.1) ∧ w0.cell? ⟨pb, po + 1, none⟩ = some (.string (bs x.2)) := by
      rcases (unhide HO).pls with h0 | ⟨pb, po, e, hlt, hc⟩
      · exact absurd (by rw [show pl = [] from h0]; rfl) hpl
      · exact ⟨pb, po, e, hlt, by simpa using hc 0 x hx⟩
    have hb := (unhide H1).bel
    have y0 := (hb.cell (p := ⟨pb, po, none⟩) hlt).trans hpc.1
    have y1 := (hb.cell (p := ⟨pb, po + 1, none⟩) hlt).trans hpc.2
    have hpl0 : 0 < pl.length := by omega
    have g1 : (0 : Int) < (pl.length : Int) := by omega
    have HFd : Hid (Fx w0 X1 w1.drew p T (.slice va m vc) A) := hide ((unhide H1).below ⟨rfl, rfl, rfl, Nat.le_refl _, fun _ _ => rfl⟩)
    have HS := hide (serve_any w0 X1 w1.drew p T va m vc A x kind n hpx (unhide HM) (unhide HFd))
    have HC : Hid (∀ W T' v' A', Fx w0 X1 W p T' v' A' → W.cell? ⟨w.heap.size, 2, none⟩ = some (.int .i64 kind) ∧ W.cell? ⟨w.heap.size, 3, none⟩ = some (.slice (some ⟨pb, po, none⟩) pl.length cap) ∧ W.cell? ⟨w.heap.size, 5, none⟩ = some (.int .i64 n) ∧ W.cell? ⟨pb, po, none⟩ = some (.int .i64 x.1) ∧ W.cell? ⟨pb, po + 1, none⟩ = some (.string (bs x.2))) := hide fun W T' v' A' q => by
      obtain ⟨q0, q1, q2, q3⟩ := unhide HXc _ _ _ _ q
      exact ⟨q1, q2, q3, (q.bel.cell (p := ⟨pb, po, none⟩) hlt).trans hpc.1, (q.bel.cell (p := ⟨pb, po + 1, none⟩) hlt).trans hpc.2⟩
    clear hpc hx hb hpl hlt hpx HFd
    go_enter Try.func18, Try.ntmps18
    go_wp2_with fail
    clear hw1
    go_wp2_with fail
    go_region_held3 (fun W => W.cell? ⟨w.heap.size, 2, none⟩ = some (.int .i64 kind) ∧ W.cell? ⟨w.heap.size, 3, none⟩ = some (.slice (some ⟨pb, po, none⟩) pl.length cap) ∧ W.cell? ⟨w.heap.size, 5, none⟩ = some (.int .i64 n) ∧ W.cell? ⟨pb, po, none⟩ = some (.int .i64 x.1) ∧ W.cell? ⟨pb, po + 1, none⟩ = some (.string (bs x.2))) (go_keep) (first | (go_at_call 20; refine (unhide HS).mono ?_; rintro e w2 ⟨va2, m2, vc2, rfl, H2⟩; obtain ⟨A2, k1, k2, -⟩ := unhide H2; obtain ⟨c2, c3, c5, d0, d1⟩ := unhide HC _ _ _ _ k2; have H3 := hide (And.intro k1 k2); clear k1 k2 H2))
    all_goals go_wp2_with fail
    all_goals go_ret2
    all_goals exact ⟨_, _, _, rfl, hide ⟨A2, T, by omega, (unhide H3).1, unhide HXd _ _ _ _ (unhide H3).2⟩⟩
theorem turn_leave (w0 : World) (X : Nat → Obj → Prop) (w : World) (p T : Nat) (va : Option Addr) (m vc : Nat) (A : List Ax) (o : Tu) (hact0 : o.act ≠ 0) (hact : o.act ≠ 1) (hm : m = A.length) (h : Fx w0 X w p T (.slice va m vc) A) :
    Calls Try.prog 18 #[.pointer (some ⟨p, 0, none⟩), .slice va m vc, .agg (tuC o).toArray] w fun e w' => TurnEnd w0 X p T e w' := by
  obtain ⟨act, conn, kind, a, cap, pl, time, n⟩ := o
  have f1 : (act == 0) = false := by simpa using hact0
  have f2 : (act == 1) = false := by simpa using hact
  clear hact0 hact
  have H0 := hide (turn_box ⟨act, conn, kind, a, cap, pl, time, n⟩ h)
  have HM := hide hm
  obtain ⟨X1, hX1⟩ : ∃ X1, X1 = XB X w.heap.size (.cells (tuC ⟨act, conn, kind, a, cap, pl, time, n⟩).toArray 52 (0, 0)) := ⟨_, rfl⟩
  rw [← hX1] at H0
  have HXd : Hid (∀ w' T' v' A', Fx w0 X1 w' p T' v' A' → Fx w0 X w' p T' v' A') := hide fun w' T' v' A' q => by rw [hX1] at q; exact q.drop
  have HXc : Hid (∀ w' T' v' A', Fx w0 X1 w' p T' v' A' → w'.cell? ⟨w.heap.size, 0, none⟩ = some (.int .i64 act) ∧ w'.cell? ⟨w.heap.size, 4, none⟩ = some (.int .u64 (time : Nat))) := hide fun w' T' v' A' q => by
    have := q.xw w.heap.size _ (by rw [hX1]; exact .inr ⟨rfl, rfl⟩)
    exact ⟨cell_blk this 0, cell_blk this 4⟩
  clear h hm hX1
  obtain ⟨w1, hw1⟩ : ∃ w1, w.alloc (.cells #[.int .i64 act, .int .i64 conn, .int .i64 kind, .slice a pl.length cap, .int .u64 (time : Nat), .int .i64 n] 52) = w1 := ⟨_, rfl⟩
  have H1 : Hid (Fx w0 X1 w1 p T (.slice va m vc) A) := hide (by rw [← hw1]; exact unhide H0)
  clear H0
  obtain ⟨z0, z4⟩ := unhide HXc _ _ _ _ (unhide H1)
  show Calls Try.prog 18 #[.pointer (some ⟨p, 0, none⟩), .slice va m vc, .agg #[.int .i64 act, .int .i64 conn, .int .i64 kind, .slice a pl.length cap, .int .u64 (time : Nat), .int .i64 n]] w fun e w' => TurnEnd w0 X p T e w'
  go_enter Try.func18, Try.ntmps18
  go_wp2_with fail
  clear hw1
  go_wp2_with (go_at_call 32; refine (leavb_any w0 X1 w1 p T va m vc A time (unhide HM) (unhide H1)).mono ?_; clear z0 z4; rintro e w2 ⟨va2, m2, vc2, rfl, H2⟩)
  go_ret2
  obtain ⟨A2, k1, k2⟩ := unhide H2
  exact ⟨_, _, _, rfl, hide ⟨A2, T, by omega, k1, unhide HXd _ _ _ _ k2⟩⟩
end Go.Proofs.Ytfebiemfmiahhaa
