/- Rows, mark, named. -/
import Derived.Test.YtdcigminfcikeaaDoorCa
namespace Go.Proofs.YtdcigminfcikeaaDoor
open Go.ChangeShapes Go.WideShapes Go.ChangeAt Go.RowKit
set_option linter.unusedVariables false
set_option maxRecDepth 100000
set_option maxHeartbeats 2000000

theorem Tryd.info28 : (Tryd.prog.info? 28).map (fun i => (i.zero, i.size, i.bytes)) = some (some (.agg #[.string ⟨#[]⟩, .int .i64 0, .bool false, .int .i64 0, .int .i64 0, .int .i64 0, .int .i64 0]), 7, 64) := by kernel_rfl
theorem info_parts {P : Program} {e : TypeId} {z : Value} {s b : Nat} (h : (P.info? e).map (fun i => (i.zero, i.size, i.bytes)) = some (some z, s, b)) : ∃ ie, P.info? e = some ie ∧ ie.zero = some z ∧ ie.size = s ∧ ie.bytes = b := by
  obtain ⟨ie, h1, h2⟩ := Option.map_eq_some_iff.1 h
  injection h2 with h3 h4
  injection h4 with h5 h6
  exact ⟨ie, h1, h3, h5, h6⟩
theorem refRows_any (w : World) : Calls Tryd.prog 8 #[] w fun e w' => e = .returned (.slice (some ⟨w.heap.size, 0, none⟩) 25 25) ∧ Hid (w'.heap[w.heap.size]? = some (.cells tabA 28 (0, 0)) ∧ Below w.heap.size w w') := by
  obtain ⟨ie, hie, hy0, hy1, hy2⟩ := info_parts Tryd.info28
  go_enter Tryd.func8, Tryd.ntmps8
  go_wp2_with (refine wpList_buildSlice rfl 23 28 25 _ rfl tabA ie _ Tryd.underlying23 hie hy0 (by rw [hy1]; decide) (by rw [hy1]; decide) (by rw [hy1]; as_aux_lemma => kernel_rfl) ?_)
  go_ret
  exact ⟨rfl, hide ⟨heap_alloc_last w _, (Below.refl _ _).alloc (Nat.le_refl _) _⟩⟩
end Go.Proofs.YtdcigminfcikeaaDoor
