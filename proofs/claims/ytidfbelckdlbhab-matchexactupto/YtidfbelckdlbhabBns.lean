/- bounds: Score. -/
import Derived.Test.YtidfbelckdlbhabRsc
import Derived.Test.YtidfbelckdlbhabHld
import Derived.Test.YtidfbelckdlbhabCpE
namespace Go.Proofs.Ytidfbelckdlbhab
open Go.ChangeShapes Go.WideShapes Go.ChangeAt Go.RowKit
set_option linter.unusedVariables false
set_option maxRecDepth 20000
set_option maxHeartbeats 2000000

theorem eqb (f s : Int) (o : Bool) (w : World) : (binOp .eql 30 (.agg #[.int .i64 f, .int .i64 s, .bool o]) (.agg #[.int .i64 f, .int .i64 s, .bool o])).run Try.prog w = .ok (.bool true) w := by
  have hS : Try.prog.underlying 30 = some (.struct (Try.prog.fieldsOf 30)) := by kernel_rfl
  rw [run_eql_struct, show (10000 : Nat) = 9999 + 1 from rfl, run_equalIn_agg w 9999 30 _ _ hS (by kernel_rfl)]
  have u2 := Try.underlying2
  have u3 := Try.underlying3
  have u4 := Try.underlying4
  simp only [Program.fieldsOf, Try.underlying30]
  go_simp

theorem bounds_score {aP : Option Addr} {cP : Nat} {P : List Nat} (v2 v3 v4 v5 v6 v7 v8 v9 v10 v11 v12 v13 v14 v15 v16 v17 : Value) (w : World) (hP : InB w aP cP P) :
    Calls Try.prog 18 #[.agg #[.int .i64 3, .slice aP P.length cP, v2, v3, v4, v5, v6, v7, v8, v9, v10, v11, v12, v13, v14, v15, v16, v17]] w fun e w' => e = .returned (.bool true) ∧ Below w.heap.size w w' := by
  obtain ⟨bP, sP, q1, q2, q3, q4⟩ := hP
  have hb0 : Below w.heap.size w (w.alloc (.cells #[.int .i64 3, .slice aP P.length cP, v2, v3, v4, v5, v6, v7, v8, v9, v10, v11, v12, v13, v14, v15, v16, v17] 34)) := (Below.refl _ _).alloc (Nat.le_refl _) _
  have H1 := hide (twin_any (w := w.alloc (.cells #[.int .i64 3, .slice aP P.length cP, v2, v3, v4, v5, v6, v7, v8, v9, v10, v11, v12, v13, v14, v15, v16, v17] 34)) aP cP P (by omega) (bP.below hb0) q4)
  have H2 : Hid (∀ W a' c', Bytes W a' P → P.length ≤ c' → c' ≤ 140737488355328 → Calls Try.prog 11 #[.slice a' P.length c'] W fun e w' => e = .returned (boundV (Larder.scoreRes P)) ∧ Below W.heap.size W w') := hide (fun W a' c' h1 h2 h3 => score_any a' c' W P (by omega) sP h2 (by omega) h1)
  have H3 : Hid (∀ W, Below w.heap.size w W → Calls Try.prog 30 #[.slice aP P.length cP] W fun e w' => e = .returned (boundV (Larder.scoreRes P)) ∧ Below W.heap.size W w') := hide (fun W hW => rscore_any aP cP W P (by omega) sP q1 (bP.below hW))
  unfold boundV at H2 H3
  generalize Larder.scoreRes P = R at *
  obtain ⟨⟨fa, sc, op⟩, er⟩ := R
  have G0 := hide (heap_alloc_new w (.cells #[.int .i64 3, .slice aP P.length cP, v2, v3, v4, v5, v6, v7, v8, v9, v10, v11, v12, v13, v14, v15, v16, v17] 34))
  have HB0 := hide hb0
  have HQ := hide q2
  clear bP sP q1 q2 q3 q4 hb0
  have HE := eqb fa sc op
  have HT : Hid (∀ e w', TwinEnd P (w.alloc (.cells #[.int .i64 3, .slice aP P.length cP, v2, v3, v4, v5, v6, v7, v8, v9, v10, v11, v12, v13, v14, v15, v16, v17] 34)) e w' → ∃ a' cap', e = .returned (.slice a' P.length cap') ∧ Hid (Bytes w' a' P ∧ (P.length ≤ cap' ∧ cap' ≤ 140737488355328) ∧ Below (w.alloc (.cells #[.int .i64 3, .slice aP P.length cP, v2, v3, v4, v5, v6, v7, v8, v9, v10, v11, v12, v13, v14, v15, v16, v17] 34)).heap.size (w.alloc (.cells #[.int .i64 3, .slice aP P.length cP, v2, v3, v4, v5, v6, v7, v8, v9, v10, v11, v12, v13, v14, v15, v16, v17] 34)) w')) := hide (fun e w' ⟨a', c', h1, h2, h3, _, h5⟩ => ⟨a', c', h1, hide ⟨h2, h3, h5⟩⟩)
  generalize hn : P.length = n at *
  clear hn
  go_enter Try.func18, Try.ntmps18
  go_wp2_with fail
  refine (unhide H1).mono ?_
  intro e w1 he
  obtain ⟨a', c', rfl, hh⟩ := unhide HT e w1 he
  clear he
  obtain ⟨hB1, ⟨z1, z2⟩, hb1⟩ := unhide hh
  have H2' := hide (unhide H2 w1 a' c' hB1 z1 z2)
  have Hb1 := hide hb1
  clear hB1 z1 z2 hb1 hh
  go_wp2_with fail
  refine (unhide H2').mono ?_
  rintro e w2 ⟨rfl, hb2⟩
  have hb02 := chain (unhide Hb1) hb2 (Nat.le_refl _)
  have hbw2 : Below w.heap.size w w2 := chain (unhide HB0) hb02 (Nat.le_refl _)
  have hr2 := (hb02.block w.heap.size (by simp)).trans (unhide G0)
  have x1 : w2.cell? ⟨w.heap.size, 1, none⟩ = some (.slice aP n cP) := by rw [cell_of_row _ _ _ _ _ _ hr2]; rfl
  have hlt2 : w.heap.size < w2.heap.size := by have := hb02.size; simp at this; omega
  have y1 : (w2.alloc (.cells #[.int .i64 fa, .int .i64 sc, .bool op] 30)).cell? ⟨w.heap.size, 1, none⟩ = some (.slice aP n cP) := (((Below.refl w2.heap.size w2).alloc (Nat.le_refl _) _).cell (p := ⟨w.heap.size, 1, none⟩) hlt2).trans x1
  clear x1
  have HB2 := hide hbw2
  have HL2 := hide hlt2
  clear hb2 hb02 hbw2 hr2 hlt2
  go_wp2_with fail
  refine (unhide H3 _ ((unhide HB2).alloc (unhide HB2).size _)).mono ?_
  rintro e w4 ⟨rfl, hb4⟩
  have hr4 := (hb4.block w2.heap.size (by simp)).trans (heap_alloc_new w2 _)
  have hlt4 : w2.heap.size < w4.heap.size := by have := hb4.size; simp at this; omega
  have hr5 := (((Below.refl w4.heap.size w4).alloc (Nat.le_refl _) (.cells #[.int .i64 fa, .int .i64 sc, .bool op] 30)).block w2.heap.size hlt4).trans hr4
  obtain ⟨k1, k2, k3, _, _, _⟩ := cells3 hr5
  have HB4 := hide (chain ((unhide HB2).alloc (unhide HB2).size _) hb4 (Nat.le_refl _))
  clear hb4 hr4 hr5 hlt4
  go_wp2
  go_ret
  exact ⟨rfl, (unhide HB4).alloc (unhide HB4).size _⟩
end Go.Proofs.Ytidfbelckdlbhab
