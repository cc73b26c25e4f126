/- Commands and Rows: a table each, in new memory. -/
import Derived.Test.YtlbgmjllglaadaaTb
namespace Go.Proofs.Ytlbgmjllglaadaa
open Go.ChangeShapes Go.WideShapes Go.ChangeAt Go.RowKit
set_option linter.unusedVariables false
set_option maxRecDepth 100000
set_option maxHeartbeats 4000000

theorem Try.info28 : (Try.prog.info? 28).map (fun i => (i.zero, i.size, i.bytes)) = some (some (.agg #[.string ⟨#[]⟩, .int .i64 0, .bool false, .int .i64 0, .int .i64 0, .int .i64 0, .int .i64 0]), 7, 64) := by kernel_rfl
theorem info_parts {P : Program} {e : TypeId} {z : Value} {s b : Nat} (h : (P.info? e).map (fun i => (i.zero, i.size, i.bytes)) = some (some z, s, b)) : ∃ ie, P.info? e = some ie ∧ ie.zero = some z ∧ ie.size = s ∧ ie.bytes = b := by
  obtain ⟨ie, h1, h2⟩ := Option.map_eq_some_iff.1 h
  injection h2 with h3 h4
  injection h4 with h5 h6
  exact ⟨ie, h1, h3, h5, h6⟩
theorem bel_chain {B : Nat} {a b c : World} (h : Below B a b) (k : Below b.heap.size b c) (hB : B ≤ b.heap.size) : Below B a c := h.trans (k.mono hB)
theorem commands_any (w : World) : Calls Try.prog 4 #[] w fun e w' => e = .returned (.slice (some ⟨w.heap.size, 0, none⟩) 31 31) ∧ Hid (w'.heap[w.heap.size]? = some (.cells tabA 28 (0, 0)) ∧ w'.heap.size = w.heap.size + 1 ∧ Below w.heap.size w w') := by
  obtain ⟨ie, hie, hy0, hy1, hy2⟩ := info_parts Try.info28
  go_enter Try.func4, Try.ntmps4
  go_wp2_with (refine wpList_buildSlice rfl 23 28 31 _ rfl tabA ie _ Try.underlying23 hie hy0 (by rw [hy1]; decide) (by rw [hy1]; decide) (by rw [hy1]; as_aux_lemma => kernel_rfl) ?_)
  go_ret
  exact ⟨rfl, hide ⟨heap_alloc_last w _, by simp, (Below.refl _ _).alloc (Nat.le_refl _) _⟩⟩
theorem row_one (w : World) (n : ByteArray) (a : Int) (b : Bool) (f l k : Int) (hf : decide (f > 0) = true) : Calls Try.prog 9 #[.string n, .int .i64 a, .bool b, .int .i64 f, .int .i64 l, .int .i64 k] w fun e w' => e = .returned (.agg #[.string n, .int .i64 a, .bool b, .int .i64 f, .int .i64 l, .int .i64 1, .int .i64 k]) ∧ Below w.heap.size w w' := by
  have hf2 : decide (0 < f) = true := hf
  go_enter Try.func9, Try.ntmps9
  go_wp2
  refine bodyPost_ret (results_cell_row (p := 12) (ty := 28) rfl _ _ w.heap.size 28 _ (0, 0) _ rfl (heap_alloc_last w _) Try.underlying28 rfl (by kernel_rfl)) rfl ⟨rfl, (Below.refl _ _).alloc (Nat.le_refl _) _⟩
theorem row_nil (w : World) (n : ByteArray) (a : Int) (b : Bool) (f l k : Int) (hf : decide (f > 0) = false) : Calls Try.prog 9 #[.string n, .int .i64 a, .bool b, .int .i64 f, .int .i64 l, .int .i64 k] w fun e w' => e = .returned (.agg #[.string n, .int .i64 a, .bool b, .int .i64 f, .int .i64 l, .int .i64 0, .int .i64 k]) ∧ Below w.heap.size w w' := by
  have hf2 : decide (0 < f) = false := hf
  go_enter Try.func9, Try.ntmps9
  go_wp2
  refine bodyPost_ret (results_cell_row (p := 12) (ty := 28) rfl _ _ w.heap.size 28 _ (0, 0) _ rfl (heap_alloc_last w _) Try.underlying28 rfl (by kernel_rfl)) rfl ⟨rfl, (Below.refl _ _).alloc (Nat.le_refl _) _⟩
theorem refRows_any (w : World) : Calls Try.prog 8 #[] w fun e w' => ∃ g, e = .returned (.slice (some ⟨g, 0, none⟩) 31 31) ∧ Hid (w'.heap[g]? = some (.cells tabA 28 (0, 0)) ∧ Below w.heap.size w w') := by
  have C1 : Hid (∀ (n : ByteArray) (a : Int) (b : Bool) (f l k : Int) (hf : decide (f > 0) = true) W, Hid (Below w.heap.size w W) → Calls Try.prog 9 #[.string n, .int .i64 a, .bool b, .int .i64 f, .int .i64 l, .int .i64 k] W fun e w' => e = .returned (.agg #[.string n, .int .i64 a, .bool b, .int .i64 f, .int .i64 l, .int .i64 1, .int .i64 k]) ∧ Hid (Below w.heap.size w w')) := hide (fun n a b f l k hf W hW => (row_one W n a b f l k hf).mono (fun e w' h => ⟨h.1, hide (bel_chain (unhide hW) h.2 (unhide hW).size)⟩))
  have C0 : Hid (∀ (n : ByteArray) (a : Int) (b : Bool) (f l k : Int) (hf : decide (f > 0) = false) W, Hid (Below w.heap.size w W) → Calls Try.prog 9 #[.string n, .int .i64 a, .bool b, .int .i64 f, .int .i64 l, .int .i64 k] W fun e w' => e = .returned (.agg #[.string n, .int .i64 a, .bool b, .int .i64 f, .int .i64 l, .int .i64 0, .int .i64 k]) ∧ Hid (Below w.heap.size w w')) := hide (fun n a b f l k hf W hW => (row_nil W n a b f l k hf).mono (fun e w' h => ⟨h.1, hide (bel_chain (unhide hW) h.2 (unhide hW).size)⟩))
  have B0 : Hid (Below w.heap.size w w) := hide (Below.refl _ _)
  obtain ⟨ie, hie, hy0, hy1, hy2⟩ := info_parts Try.info28
  go_enter Try.func8, Try.ntmps8
  go_wp2_with (first
    | (go_at_call 9; refine (unhide C1 _ _ _ _ _ _ (by decide) _ (by assumption)).mono ?_; rintro e w1 ⟨rfl, k1⟩)
    | (go_at_call 9; refine (unhide C0 _ _ _ _ _ _ (by decide) _ (by assumption)).mono ?_; rintro e w1 ⟨rfl, k1⟩)
    | (refine wpList_buildSlice rfl 23 28 31 _ rfl tabA ie _ Try.underlying23 hie hy0 (by rw [hy1]; decide) (by rw [hy1]; decide) (by rw [hy1]; as_aux_lemma => kernel_rfl) ?_))
  go_ret
  exact ⟨_, rfl, hide ⟨heap_alloc_last w1 _, bel_chain (unhide k1) ((Below.refl _ _).alloc (Nat.le_refl _) _) (unhide k1).size⟩⟩
end Go.Proofs.Ytlbgmjllglaadaa
