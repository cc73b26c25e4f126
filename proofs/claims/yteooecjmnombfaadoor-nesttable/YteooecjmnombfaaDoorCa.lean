/- Commands and Rows: a table each, in new memory. -/
import Derived.Test.YteooecjmnombfaaDoorTb
namespace Go.Proofs.YteooecjmnombfaaDoor
open Go.ChangeShapes Go.WideShapes Go.ChangeAt Go.RowKit
set_option linter.unusedVariables false
set_option maxRecDepth 100000
set_option maxHeartbeats 2000000

theorem Tab.row {w : World} (h : Tab w) : ∃ t fr, w.heap[0]? = some (.cells tabA t fr) := by
  unfold Tab World.var? at h
  have hg' : Tryd.prog.globalNamed tabName = some 0 := by kernel_rfl
  simp only [hg', Option.bind_some] at h
  revert h
  cases hh : w.heap[0]? with
  | none => intro h; cases h
  | some o =>
    cases o with
    | cells cs t fr => intro h; exact ⟨t, fr, by rw [Option.some.inj h]⟩
    | _ => intro h; cases h
theorem Tab.of {w : World} {t : TypeId} {fr : Nat × Nat} (h : w.heap[0]? = some (.cells tabA t fr)) : Tab w := by
  unfold Tab World.var?
  have hg' : Tryd.prog.globalNamed tabName = some 0 := by kernel_rfl
  simp only [hg', Option.bind_some, h]
theorem Tab.pos {w : World} (h : Tab w) : 0 < w.heap.size := by
  obtain ⟨t, fr, hh⟩ := h.row
  exact (Array.getElem?_eq_some_iff.1 hh).1
theorem Tab.below {B : Nat} {w w' : World} (h : Tab w) (hB : 0 < B) (hb : Below B w w') : Tab w' := by
  obtain ⟨t, fr, hh⟩ := h.row
  exact Tab.of (by rw [hb.block 0 hB]; exact hh)

theorem one_all : tabA.all (fun v => v.oneCell') = true := by decide +kernel
theorem size30 : (Tryd.prog.info? 30).map (fun i => i.size) = some tabA.size := by rw [tabA_size]; kernel_rfl
theorem commands_any (w : World) (ht : Tab w) : Calls Tryd.prog 5 #[] w fun e w' => e = .returned (.slice (some ⟨w.heap.size, 0, none⟩) 29 29) ∧ Hid (w'.heap[w.heap.size]? = some (.cells tabA 30 (0, 0)) ∧ w'.heap.size = w.heap.size + 1 ∧ Below w.heap.size w w') := by
  obtain ⟨t, fr, hh⟩ := ht.row
  have s34 := hide size30
  have h1 := hide one_all
  have hsz := hide tabA_size
  have HH := hide hh
  clear hh ht
  generalize tabA = T at *
  go_enter Tryd.func5, Tryd.ntmps5
  go_wp2_with (first
    | (refine wpList_load_row rfl 30 _ rfl 0 rfl t T fr _ (unhide HH) Tryd.underlying30 rfl (unhide s34) ?_)
    | (refine wpList_store_rowTo rfl 30 _ _ rfl rfl w.heap.size T rfl rfl 30 _ (heap_alloc_last w _) (unhide s34) (by rw [unhide hsz]; kernel_rfl) (unhide h1) ?_; rw [World.setRow_alloc_new]))
  go_ret
  exact ⟨rfl, hide ⟨heap_alloc_last w _, by simp, (Below.refl _ _).alloc (Nat.le_refl _) _⟩⟩
end Go.Proofs.YteooecjmnombfaaDoor
