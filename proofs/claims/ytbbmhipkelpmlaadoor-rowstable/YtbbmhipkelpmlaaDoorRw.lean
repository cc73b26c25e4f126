/- The document's rows: Names, Row, read. -/
import Derived.Test.YtbbmhipkelpmlaaDoorCa
import Derived.Laws.StructEq
import Derived.Laws.Rows
namespace Go.Proofs.YtbbmhipkelpmlaaDoor
open Go.ChangeShapes Go.WideShapes Go.ChangeAt Go.RowKit
set_option linter.unusedVariables false
set_option maxRecDepth 100000
set_option maxHeartbeats 2000000

theorem Tryd.info26 : (Tryd.prog.info? 26).map (fun i => (i.zero, i.size, i.bytes)) = some (some (.agg #[.string ⟨#[]⟩, .int .i64 0, .bool false, .int .i64 0, .int .i64 0, .int .i64 0, .int .i64 0]), 7, 64) := by kernel_rfl
theorem Tryd.info9 : (Tryd.prog.info? 9).map (fun i => (i.zero, i.size, i.bytes)) = some (some (.string ⟨#[]⟩), 1, 16) := by kernel_rfl
theorem info_parts {P : Program} {e : TypeId} {z : Value} {s b : Nat} (h : (P.info? e).map (fun i => (i.zero, i.size, i.bytes)) = some (some z, s, b)) : ∃ ie, P.info? e = some ie ∧ ie.zero = some z ∧ ie.size = s ∧ ie.bytes = b := by
  obtain ⟨ie, h1, h2⟩ := Option.map_eq_some_iff.1 h
  injection h2 with h3 h4
  injection h4 with h5 h6
  exact ⟨ie, h1, h3, h5, h6⟩
def nameA : Array Value := (tabC.map (fun c => Value.string ⟨c.n.toArray⟩)).toArray
theorem names_any (w : World) : Calls Tryd.prog 4 #[] w fun e w' => e = .returned (.slice (some ⟨w.heap.size, 0, none⟩) 17 17) ∧ Hid (w'.heap[w.heap.size]? = some (.cells nameA 9 (0, 0)) ∧ Below w.heap.size w w') := by
  obtain ⟨ie, hie, hy0, hy1, hy2⟩ := info_parts Tryd.info9
  go_enter Tryd.func4, Tryd.ntmps4
  go_wp2_with (refine wpList_buildSlice rfl 22 9 17 _ rfl nameA ie _ Tryd.underlying22 hie hy0 (by rw [hy1]; decide) (by rw [hy1]; decide) (by rw [hy1]; as_aux_lemma => kernel_rfl) ?_)
  go_ret
  exact ⟨rfl, hide ⟨heap_alloc_last w _, (Below.refl _ _).alloc (Nat.le_refl _) _⟩⟩
theorem res_cell_tmp {P : Program} {fn : Func} {p q : Tmp} {ty : TypeId} (h : fn.results = #[.cell p ty, .tmp q]) (tmps : Array Value) (w : World) (g : Nat) (t : TypeId) (cs : Array Value) (fr : Nat × Nat) (d : TypeDesc)
    (hp : tmps.getD p undef = .pointer (some ⟨g, 0, none⟩)) (hg : w.heap[g]? = some (.cells cs t fr))
    (hu : P.underlying ty = some d) (hd : (match d with | .struct _ | .array _ _ => true | _ => false) = true) (hi : (P.info? ty).map (·.size) = some cs.size) (v : Value) (hv : tmps.getD q undef = v) :
    (results fn tmps).run P w = .ok (.tuple #[.agg cs, v]) w := by
  have hp' : tmps[p]?.getD undef = .pointer (some ⟨g, 0, none⟩) := by simpa using hp
  have hv' : tmps[q]?.getD undef = v := by simpa using hv
  simp [results, h, hp', hv', asAddr, run_loadVar_row w g t ty cs fr d hg hu hd hi]
theorem read_LLEN (w : World) : Calls Tryd.prog 8 #[.string ⟨#[76, 76, 69, 78]⟩] w fun e w' => e = .returned (.tuple #[.agg #[.string ⟨#[76, 76, 69, 78]⟩, .int .i64 2, .bool false, .int .i64 1, .int .i64 1, .int .i64 1, .int .i64 0], .bool true]) ∧ w' = (w.alloc (.cells #[.string ⟨#[76, 76, 69, 78]⟩, .int .i64 2, .bool false, .int .i64 1, .int .i64 1, .int .i64 1, .int .i64 0] 26)).alloc (.cells #[.string ⟨#[76, 76, 69, 78]⟩, .int .i64 2, .bool false, .int .i64 1, .int .i64 1, .int .i64 1, .int .i64 0] 26) := by
  go_enter Tryd.func8, Tryd.ntmps8
  go_wp2
  refine bodyPost_ret (res_cell_tmp (p := 2) (q := 3) (ty := 26) rfl _ _ w.heap.size 26 _ (0, 0) _ rfl ((Below.heap_alloc _ _ _ (by simp)).trans (heap_alloc_last w _)) Tryd.underlying26 rfl (by kernel_rfl) _ rfl) rfl ⟨rfl, rfl⟩
theorem read_LINDEX (w : World) : Calls Tryd.prog 8 #[.string ⟨#[76, 73, 78, 68, 69, 88]⟩] w fun e w' => e = .returned (.tuple #[.agg #[.string ⟨#[76, 73, 78, 68, 69, 88]⟩, .int .i64 3, .bool false, .int .i64 1, .int .i64 1, .int .i64 1, .int .i64 0], .bool true]) ∧ w' = (w.alloc (.cells #[.string ⟨#[76, 73, 78, 68, 69, 88]⟩, .int .i64 3, .bool false, .int .i64 1, .int .i64 1, .int .i64 1, .int .i64 0] 26)).alloc (.cells #[.string ⟨#[76, 73, 78, 68, 69, 88]⟩, .int .i64 3, .bool false, .int .i64 1, .int .i64 1, .int .i64 1, .int .i64 0] 26) := by
  go_enter Tryd.func8, Tryd.ntmps8
  go_wp2
  refine bodyPost_ret (res_cell_tmp (p := 2) (q := 3) (ty := 26) rfl _ _ w.heap.size 26 _ (0, 0) _ rfl ((Below.heap_alloc _ _ _ (by simp)).trans (heap_alloc_last w _)) Tryd.underlying26 rfl (by kernel_rfl) _ rfl) rfl ⟨rfl, rfl⟩
theorem read_LRANGE (w : World) : Calls Tryd.prog 8 #[.string ⟨#[76, 82, 65, 78, 71, 69]⟩] w fun e w' => e = .returned (.tuple #[.agg #[.string ⟨#[76, 82, 65, 78, 71, 69]⟩, .int .i64 4, .bool false, .int .i64 1, .int .i64 1, .int .i64 1, .int .i64 0], .bool true]) ∧ w' = (w.alloc (.cells #[.string ⟨#[76, 82, 65, 78, 71, 69]⟩, .int .i64 4, .bool false, .int .i64 1, .int .i64 1, .int .i64 1, .int .i64 0] 26)).alloc (.cells #[.string ⟨#[76, 82, 65, 78, 71, 69]⟩, .int .i64 4, .bool false, .int .i64 1, .int .i64 1, .int .i64 1, .int .i64 0] 26) := by
  go_enter Tryd.func8, Tryd.ntmps8
  go_wp2
  refine bodyPost_ret (res_cell_tmp (p := 2) (q := 3) (ty := 26) rfl _ _ w.heap.size 26 _ (0, 0) _ rfl ((Below.heap_alloc _ _ _ (by simp)).trans (heap_alloc_last w _)) Tryd.underlying26 rfl (by kernel_rfl) _ rfl) rfl ⟨rfl, rfl⟩
theorem read_LPOS (w : World) : Calls Tryd.prog 8 #[.string ⟨#[76, 80, 79, 83]⟩] w fun e w' => e = .returned (.tuple #[.agg #[.string ⟨#[76, 80, 79, 83]⟩, .int .i64 (-3), .bool false, .int .i64 1, .int .i64 1, .int .i64 1, .int .i64 0], .bool true]) ∧ w' = (w.alloc (.cells #[.string ⟨#[76, 80, 79, 83]⟩, .int .i64 (-3), .bool false, .int .i64 1, .int .i64 1, .int .i64 1, .int .i64 0] 26)).alloc (.cells #[.string ⟨#[76, 80, 79, 83]⟩, .int .i64 (-3), .bool false, .int .i64 1, .int .i64 1, .int .i64 1, .int .i64 0] 26) := by
  go_enter Tryd.func8, Tryd.ntmps8
  go_wp2
  refine bodyPost_ret (res_cell_tmp (p := 2) (q := 3) (ty := 26) rfl _ _ w.heap.size 26 _ (0, 0) _ rfl ((Below.heap_alloc _ _ _ (by simp)).trans (heap_alloc_last w _)) Tryd.underlying26 rfl (by kernel_rfl) _ rfl) rfl ⟨rfl, rfl⟩
end Go.Proofs.YtbbmhipkelpmlaaDoor
