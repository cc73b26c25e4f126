/- bounds: InScore. -/
import Derived.Test.YtidfbelckdlbhabInb
import Derived.Test.YtidfbelckdlbhabInr
import Derived.Test.YtidfbelckdlbhabHld
import Derived.Deep.RegionHeld3
namespace Go.Proofs.Ytidfbelckdlbhab
open Go.ChangeShapes Go.WideShapes Go.ChangeAt Go.RowKit
set_option linter.unusedVariables false
set_option maxRecDepth 20000
set_option maxHeartbeats 2000000

theorem bounds_in (v1 v2 v4 v5 v12 v13 v14 v15 v16 v17 : Value) (I lf ls hf hs : Int) (lo ho : Bool) (w : World) :
    Calls Try.prog 18 #[.agg #[.int .i64 5, v1, v2, .int .i64 I, v4, v5, .int .i64 lf, .int .i64 ls, .bool lo, .int .i64 hf, .int .i64 hs, .bool ho, v12, v13, v14, v15, v16, v17]] w fun e w' => e = .returned (.bool true) ∧ Below w.heap.size w w' := by
  have hb0 : Below w.heap.size w (w.alloc (.cells #[.int .i64 5, v1, v2, .int .i64 I, v4, v5, .int .i64 lf, .int .i64 ls, .bool lo, .int .i64 hf, .int .i64 hs, .bool ho, v12, v13, v14, v15, v16, v17] 34)) := (Below.refl _ _).alloc (Nat.le_refl _) _
  have g0 := heap_alloc_new w (.cells #[.int .i64 5, v1, v2, .int .i64 I, v4, v5, .int .i64 lf, .int .i64 ls, .bool lo, .int .i64 hf, .int .i64 hs, .bool ho, v12, v13, v14, v15, v16, v17] 34)
  have key : ∀ W : World, W.heap[w.heap.size]? = some (.cells #[.int .i64 5, v1, v2, .int .i64 I, v4, v5, .int .i64 lf, .int .i64 ls, .bool lo, .int .i64 hf, .int .i64 hs, .bool ho, v12, v13, v14, v15, v16, v17] 34 (0, 0)) → (fun w' : World => w'.cell? ⟨w.heap.size, 3, none⟩ = some (.int .i64 I) ∧ w'.cell? ⟨w.heap.size, 6, none⟩ = some (.int .i64 lf) ∧ w'.cell? ⟨w.heap.size, 7, none⟩ = some (.int .i64 ls) ∧ w'.cell? ⟨w.heap.size, 8, none⟩ = some (.bool lo) ∧ w'.cell? ⟨w.heap.size, 9, none⟩ = some (.int .i64 hf) ∧ w'.cell? ⟨w.heap.size, 10, none⟩ = some (.int .i64 hs) ∧ w'.cell? ⟨w.heap.size, 11, none⟩ = some (.bool ho)) W := fun W h => ⟨by rw [cell_of_row _ _ _ _ _ _ h]; rfl, by rw [cell_of_row _ _ _ _ _ _ h]; rfl, by rw [cell_of_row _ _ _ _ _ _ h]; rfl, by rw [cell_of_row _ _ _ _ _ _ h]; rfl, by rw [cell_of_row _ _ _ _ _ _ h]; rfl, by rw [cell_of_row _ _ _ _ _ _ h]; rfl, by rw [cell_of_row _ _ _ _ _ _ h]; rfl⟩
  have step : ∀ W W' : World, (W.heap[w.heap.size]? = some (.cells #[.int .i64 5, v1, v2, .int .i64 I, v4, v5, .int .i64 lf, .int .i64 ls, .bool lo, .int .i64 hf, .int .i64 hs, .bool ho, v12, v13, v14, v15, v16, v17] 34 (0, 0)) ∧ Below w.heap.size w W) → Below W.heap.size W W' → (W'.heap[w.heap.size]? = some (.cells #[.int .i64 5, v1, v2, .int .i64 I, v4, v5, .int .i64 lf, .int .i64 ls, .bool lo, .int .i64 hf, .int .i64 hs, .bool ho, v12, v13, v14, v15, v16, v17] 34 (0, 0)) ∧ Below w.heap.size w W') := fun W W' h hb => by
    have hlt : w.heap.size < W.heap.size := by
      rcases Nat.lt_or_ge w.heap.size W.heap.size with q | q
      · exact q
      · have := h.1
        rw [Array.getElem?_eq_none q] at this
        cases this
    exact ⟨(hb.block _ hlt).trans h.1, chain h.2 hb (Nat.le_refl _)⟩
  have F1 : Hid (Calls Try.prog 33 #[.agg #[.int .i64 lf, .int .i64 ls, .bool lo], .agg #[.int .i64 hf, .int .i64 hs, .bool ho], .int .i64 I] (w.alloc (.cells #[.int .i64 5, v1, v2, .int .i64 I, v4, v5, .int .i64 lf, .int .i64 ls, .bool lo, .int .i64 hf, .int .i64 hs, .bool ho, v12, v13, v14, v15, v16, v17] 34)).drew fun e w' => e = .returned (.bool (Larder.inB lf (Larder.cmpInt I ls) lo hf (Larder.cmpInt hs I) ho)) ∧ Hid (w'.heap[w.heap.size]? = some (.cells #[.int .i64 5, v1, v2, .int .i64 I, v4, v5, .int .i64 lf, .int .i64 ls, .bool lo, .int .i64 hf, .int .i64 hs, .bool ho, v12, v13, v14, v15, v16, v17] 34 (0, 0)) ∧ Below w.heap.size w w') ∧ w'.cell? ⟨w.heap.size, 3, none⟩ = some (.int .i64 I) ∧ w'.cell? ⟨w.heap.size, 6, none⟩ = some (.int .i64 lf) ∧ w'.cell? ⟨w.heap.size, 7, none⟩ = some (.int .i64 ls) ∧ w'.cell? ⟨w.heap.size, 8, none⟩ = some (.bool lo) ∧ w'.cell? ⟨w.heap.size, 9, none⟩ = some (.int .i64 hf) ∧ w'.cell? ⟨w.heap.size, 10, none⟩ = some (.int .i64 hs) ∧ w'.cell? ⟨w.heap.size, 11, none⟩ = some (.bool ho)) := hide ((inscore_any lf ls lo hf hs ho I _).mono (fun e w' ⟨h1, h2⟩ => by
    have hs := step (w.alloc (.cells #[.int .i64 5, v1, v2, .int .i64 I, v4, v5, .int .i64 lf, .int .i64 ls, .bool lo, .int .i64 hf, .int .i64 hs, .bool ho, v12, v13, v14, v15, v16, v17] 34)).drew w' ⟨g0, hb0.drew⟩ h2
    exact ⟨h1, hide hs, key w' hs.1⟩))
  have F2 : Hid (∀ W, Hid (W.heap[w.heap.size]? = some (.cells #[.int .i64 5, v1, v2, .int .i64 I, v4, v5, .int .i64 lf, .int .i64 ls, .bool lo, .int .i64 hf, .int .i64 hs, .bool ho, v12, v13, v14, v15, v16, v17] 34 (0, 0)) ∧ Below w.heap.size w W) → Calls Try.prog 34 #[.agg #[.int .i64 lf, .int .i64 ls, .bool lo], .agg #[.int .i64 hf, .int .i64 hs, .bool ho], .int .i64 I] W fun e w' => e = .returned (.bool (Larder.inB lf (Larder.cmpInt I ls) lo hf (Larder.cmpInt hs I) ho)) ∧ Hid (w'.heap[w.heap.size]? = some (.cells #[.int .i64 5, v1, v2, .int .i64 I, v4, v5, .int .i64 lf, .int .i64 ls, .bool lo, .int .i64 hf, .int .i64 hs, .bool ho, v12, v13, v14, v15, v16, v17] 34 (0, 0)) ∧ Below w.heap.size w w') ∧ w'.cell? ⟨w.heap.size, 3, none⟩ = some (.int .i64 I) ∧ w'.cell? ⟨w.heap.size, 6, none⟩ = some (.int .i64 lf) ∧ w'.cell? ⟨w.heap.size, 7, none⟩ = some (.int .i64 ls) ∧ w'.cell? ⟨w.heap.size, 8, none⟩ = some (.bool lo) ∧ w'.cell? ⟨w.heap.size, 9, none⟩ = some (.int .i64 hf) ∧ w'.cell? ⟨w.heap.size, 10, none⟩ = some (.int .i64 hs) ∧ w'.cell? ⟨w.heap.size, 11, none⟩ = some (.bool ho)) := hide (fun W hW => (rinscore_any lf ls lo hf hs ho I W).mono (fun e w' ⟨h1, h2⟩ => by
    have hs := step W w' (unhide hW) h2
    exact ⟨h1, hide hs, key w' hs.1⟩))
  clear hb0 g0 key step
  generalize Larder.inB lf (Larder.cmpInt I ls) lo hf (Larder.cmpInt hs I) ho = R at *
  go_enter Try.func18, Try.ntmps18
  go_wp2_with fail
  go_region_held3 (fun w' => w'.cell? ⟨w.heap.size, 3, none⟩ = some (.int .i64 I) ∧ w'.cell? ⟨w.heap.size, 6, none⟩ = some (.int .i64 lf) ∧ w'.cell? ⟨w.heap.size, 7, none⟩ = some (.int .i64 ls) ∧ w'.cell? ⟨w.heap.size, 8, none⟩ = some (.bool lo) ∧ w'.cell? ⟨w.heap.size, 9, none⟩ = some (.int .i64 hf) ∧ w'.cell? ⟨w.heap.size, 10, none⟩ = some (.int .i64 hs) ∧ w'.cell? ⟨w.heap.size, 11, none⟩ = some (.bool ho)) (go_keep) (first | (go_at_call 33; refine (unhide F1).mono ?_; rintro e w5 ⟨rfl, g5, x3, x6, x7, x8, x9, x10, x11⟩) | (go_at_call 34; refine (unhide F2 _ g5).mono ?_; rintro e w6 ⟨rfl, g6, y3, y6, y7, y8, y9, y10, y11⟩))
  all_goals go_wp2
  all_goals go_ret
  all_goals exact ⟨ret_bool (by cases R <;> rfl), (unhide g6).2⟩
end Go.Proofs.Ytidfbelckdlbhab
