/- api.Bad. -/
import Derived.Test.YtochdajeocganaaApiText
import Derived.Lib.ConvBytes
import Derived.Lib.SmallJoins
import Derived.Laws.CopyOwn
namespace Go.Proofs.Ytochdajeocganaa
open Go.ChangeShapes Go.WideShapes Go.ChangeAt Go.RowKit
set_option linter.unusedVariables false
set_option maxRecDepth 100000

/-- a text's bytes in new memory -/
theorem text_conv (S : ByteArray) (w : World) :
    ∃ c w', (convert 9 26 (.string S)).run Try.prog w = .ok (.slice (some ⟨w.heap.size, 0, none⟩) S.size c) w' ∧ (∀ j, j < S.size → w'.cell? ⟨w.heap.size, j, none⟩ = some (.int .u8 (S.data.toList.getD j 0).toNat)) ∧ Below w.heap.size w w' ∧ w'.heap.size = w.heap.size + 1 := by
  have h := Lib.run_convert_string_bytes (P := Try.prog) w 9 26 5 S Try.underlying9 Try.underlying26 Try.underlying5
  exact ⟨_, _, h, fun j hj => Lib.bytesWorld_cell w 5 S j hj, Go.Joins.below_bytesWorld _ w 5 S (Nat.le_refl _), Lib.bytesWorld_size w 5 S⟩

theorem results_cell {fn : Func} {r : Tmp} {t : TypeId} (h : fn.results = #[.cell r t]) (tmps : Array Value) (P : Program) (w : World) (p : Addr) (hp : tmps.getD r undef = .pointer (some p)) (v : Value) (hl : (loadVar t p).run P w = .ok v w) :
    (results fn tmps).run P w = .ok v w := by
  have hp' : tmps[r]?.getD undef = .pointer (some p) := by rw [← hp]; simp [Array.getD_eq_getD_getElem?]
  simp [results, h, asAddr, hp', hl]

theorem bad_any (n : Int) (h1 : -9223372036854775808 ≤ n) (h2 : n ≤ 9223372036854775807) (S : ByteArray) (hS : S = txt n) (w : World) :
    Calls Try.prog 29 #[.int .i64 n] w fun e w' => ∃ g c, e = .returned (.agg #[.int .i64 2, .int .i64 0, .slice (some ⟨g, 0, none⟩) S.size c, .slice none 0 0]) ∧ (∀ j, j < S.size → w'.cell? ⟨g, j, none⟩ = some (.int .u8 (S.data.toList.getD j 0).toNat)) ∧ g < w'.heap.size ∧ Below w.heap.size w w' := by
  have HC : Hid (∀ w', Calls Try.prog 9 #[.int .i64 n] w' fun e w'' => e = .returned (.string S) ∧ Below w'.heap.size w' w'') := hide (fun w' => by rw [hS]; exact text_any n h1 h2 w')
  clear hS
  have hb0 : Below w.heap.size w (w.alloc (.cells #[.int .i64 0, .int .i64 0, .slice none 0 0, .slice none 0 0] 62)) := (Below.refl _ _).alloc (Nat.le_refl _) _
  go_enter Try.func29, Try.ntmps29
  go_wp2_with fail
  refine (unhide HC _).mono ?_
  rintro e w1 ⟨rfl, hb1⟩
  have hr1 : w1.heap[w.heap.size]? = some (.cells #[.int .i64 0, .int .i64 0, .slice none 0 0, .slice none 0 0] 62 (0, 0)) := (hb1.block w.heap.size (by simp)).trans (heap_alloc_last w _)
  have hl1 : w.heap.size < w1.heap.size := by have := hb1.size; simp at this; omega
  have k1 : Below w.heap.size w w1 := hb0.trans (hb1.mono hb0.size)
  clear hb0 hb1
  obtain ⟨c, w2, hcv, hcells, hb2, hs2⟩ := text_conv S w1
  have hr2 : w2.heap[w.heap.size]? = some (.cells #[.int .i64 0, .int .i64 0, .slice none 0 0, .slice none 0 0] 62 (0, 0)) := (hb2.block w.heap.size hl1).trans hr1
  have k2 : Below w.heap.size w w2 := k1.trans (hb2.mono k1.size)
  have x0 : w2.cell? ⟨w.heap.size, 0, none⟩ = some (.int .i64 0) := by simp [World.cell?, hr2]
  have x1 : w2.cell? ⟨w.heap.size, 1, none⟩ = some (.int .i64 0) := by simp [World.cell?, hr2]
  have x2 : w2.cell? ⟨w.heap.size, 2, none⟩ = some (.slice none 0 0) := by simp [World.cell?, hr2]
  have x3 : w2.cell? ⟨w.heap.size, 3, none⟩ = some (.slice none 0 0) := by simp [World.cell?, hr2]
  have y0 : w2.frozen? ⟨w.heap.size, 0, none⟩ = false := by simp [World.frozen?, hr2]
  have y1 : w2.frozen? ⟨w.heap.size, 1, none⟩ = false := by simp [World.frozen?, hr2]
  have y2 : w2.frozen? ⟨w.heap.size, 2, none⟩ = false := by simp [World.frozen?, hr2]
  have y3 : w2.frozen? ⟨w.heap.size, 3, none⟩ = false := by simp [World.frozen?, hr2]
  have HCE := hide hcells
  have HK := hide k2
  have HS2 := hide hs2
  have HR := hide hr2
  clear hcells hr1 k1 hb2 hr2 k2 hs2
  go_wp2
  have hr := unhide HR
  have r1 := heap_setCell_same w2 w.heap.size 0 _ 62 (.int .i64 2) hr
  have r2 := heap_setCell_same _ w.heap.size 1 _ 62 (.int .i64 0) r1
  have r3 := heap_setCell_same _ w.heap.size 2 _ 62 (.slice (some ⟨w1.heap.size, 0, none⟩) S.size c) r2
  have r4 := heap_setCell_same _ w.heap.size 3 _ 62 (.slice none 0 0) r3
  refine bodyPost_ret_by (v := .agg #[.int .i64 2, .int .i64 0, .slice (some ⟨w1.heap.size, 0, none⟩) S.size c, .slice none 0 0]) (results_cell (r := 2) (t := 62) (by kernel_rfl) _ _ _ ⟨w.heap.size, 0, none⟩ rfl _ ?_) rfl ?_
  · exact run_loadVar_row _ w.heap.size 62 62 _ _ _ r4 Try.underlying62 rfl (by as_aux_lemma => kernel_rfl)
  · refine ⟨_, _, rfl, fun j hj => ?_, ?_, ?_⟩
    · have ne : ∀ k, (⟨w.heap.size, k, none⟩ : Addr) ≠ ⟨w1.heap.size, j, none⟩ := fun k e => by injection e with e1; omega
      rw [World.cell?_setCell_other _ _ _ _ (ne 3), World.cell?_setCell_other _ _ _ _ (ne 2), World.cell?_setCell_other _ _ _ _ (ne 1), World.cell?_setCell_other _ _ _ _ (ne 0)]
      exact unhide HCE j hj
    · have := unhide HS2
      simp
      omega
    · exact ((((unhide HK).setCell (Nat.le_refl _) _).setCell (Nat.le_refl _) _).setCell (Nat.le_refl _) _).setCell (Nat.le_refl _) _
end Go.Proofs.Ytochdajeocganaa
