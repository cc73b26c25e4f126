/- bytes.Clone. -/
import Derived.Test.YtfgemcmiilbodaaDoorSame
import Derived.Lib.SliceRun
namespace Go.Proofs.YtfgemcmiilbodaaDoor
open Go.ChangeShapes Go.WideShapes Go.ChangeAt Go.RowKit
set_option linter.unusedVariables false
set_option maxRecDepth 20000

theorem Bytes.at {w : World} {a : Option Addr} {l : List Nat} (h : Bytes w a l) (h0 : 0 < l.length) : ∃ b off, a = some ⟨b, off, none⟩ ∧ b < w.heap.size ∧ ∀ i, i < l.length → w.cell? ⟨b, off + i, none⟩ = some (.int .u8 (l.getD i 0 : Nat)) := by
  rcases h with rfl | h
  · simp at h0
  · exact h
theorem OwnB.mono {w : World} {base base' : Nat} {v : Value} {l : List Nat} (h : OwnB w base v l) (hb : base' ≤ base) : OwnB w base' v l := by
  refine ⟨h.1, ?_⟩
  rcases h.2 with hn | ⟨g, cap, cur, rfl, hbb, hg, rest⟩
  · exact .inl hn
  · exact .inr ⟨g, cap, cur, rfl, Nat.le_trans hb hbb, hg, rest⟩
theorem OwnB.set {w : World} {base g j : Nat} {v x : Value} {l : List Nat} (h : OwnB w base v l) (hg : g < base) : OwnB (w.setCell ⟨g, j, none⟩ x) base v l := by
  refine ⟨h.1, ?_⟩
  rcases h.2 with hn | ⟨g', cap, cur, rfl, hbb, hg', rest⟩
  · exact .inl hn
  · exact .inr ⟨g', cap, cur, rfl, hbb, (Below.heap_setCell w ⟨g, j, none⟩ x g' (by show g' ≠ g; omega)).trans hg', rest⟩
theorem OwnB.nil (w : World) (base : Nat) : OwnB w base (.slice none 0 0) [] := World.ownsRow_nil w base 5 1
theorem OwnB.drew {w : World} {base : Nat} {v : Value} {l : List Nat} (h : OwnB w base v l) : OwnB w.drew base v l := h

theorem clone_nil (w : World) (cap : Nat) : Calls Tryd.prog 28 #[.slice none 0 cap] w fun e w' => e = .returned (.slice none 0 0) ∧ w' = w := by
  have q22 : ∀ (w : World) (a : Option Addr) (n c n' c' : Nat), (binOp .eql 22 (.slice a n c) (.slice none n' c')).run Tryd.prog w = .ok (.bool a.isNone) w := fun w a n c n' c' => Lib.run_eql_slice_nil w _ _ a n c n' c' Tryd.underlying22
  go_enter Tryd.func28, Tryd.ntmps28
  go_wp2
  go_ret
  exact ⟨rfl, rfl⟩
theorem clone_some (x : Addr) (cap : Nat) (w : World) (l : List Nat) (hl : l.length ≤ 140737488355328) (hB : Bytes w (some x) l) :
    Calls Tryd.prog 28 #[.slice (some x) l.length cap] w fun e w' => ∃ v, e = .returned v ∧ OwnB w' w.heap.size v l ∧ Below w.heap.size w w' := by
  have q22 : ∀ (w : World) (a : Option Addr) (n c n' c' : Nat), (binOp .eql 22 (.slice a n c) (.slice none n' c')).run Tryd.prog w = .ok (.bool a.isNone) w := fun w a n c n' c' => Lib.run_eql_slice_nil w _ _ a n c n' c' Tryd.underlying22
  obtain ⟨i0, hi, hz0, hz1, hz2⟩ := info_parts Tryd.info5
  have hnews : ∀ j u, (cellsOf l)[j]? = some u → (w.alloc (.cells #[] 5)).cell? (x.add j) = some u := by
    intro j u hu
    obtain ⟨hj, rfl⟩ := cellsOf_get l j u hu
    rcases hB.below ((Below.refl _ _).alloc (Nat.le_refl _) (.cells #[] 5)) with rfl | ⟨b, off, h, hb, hc⟩
    · simp at hj
    · cases h
      rw [add_plain]; exact hc j hj
  have hown : (w.alloc (.cells #[] 5)).ownsRow w.heap.size 5 1 (.slice (some ⟨w.heap.size, 0, none⟩) 0 0) 0 [] := ⟨rfl, .inr ⟨w.heap.size, 0, #[], rfl, Nat.le_refl _, heap_alloc_new _ _, Nat.le_refl _, by simp [maxLen], rfl, rfl⟩⟩
  have q0 : (cellsOf l).length = l.length * 1 := by simp [cellsOf]
  have q1 := cellsOf_one l
  have q2 : 0 + l.length ≤ maxLen := by simp [maxLen]; omega
  have q3 : (0 + l.length) * 1 ≤ 140737488355328 := by omega
  have q4 : w.heap.size ≤ (w.alloc (.cells #[] 5)).heap.size := by simp
  have H0 := hide hnews
  have H1 := hide hown
  have H2 := hide q1
  clear hB hnews hown q1
  go_enter Tryd.func28, Tryd.ntmps28
  go_wp2_with (at_builtin; refine wpList_append_own _ rfl _ _ 22 rfl w.heap.size 5 i0 (.int .u8 0) 1 1 Tryd.underlying22 hi hz0 hz1 hz2 rfl (by decide) _ 0 [] rfl (unhide H1) x l.length cap (cellsOf l) rfl q0 (unhide H0) (unhide H2) q2 q3 q4 ?_)
  intro v' w1 hown hgrow _
  go_wp2
  go_ret
  refine ⟨_, rfl, ?_, ((Below.refl _ _).alloc (Nat.le_refl _) _).grown hgrow (by simp) (fun k h => by simp [Value.ownBlock] at h; omega)⟩
  simpa [OwnB] using hown
theorem clone_any (a : Option Addr) (cap : Nat) (w : World) (l : List Nat) (hl : l.length ≤ 140737488355328) (hB : Bytes w a l) :
    Calls Tryd.prog 28 #[.slice a l.length cap] w fun e w' => ∃ v, e = .returned v ∧ OwnB w' w.heap.size v l ∧ Below w.heap.size w w' := by
  cases a with
  | none =>
    have hl0 : l = [] := by
      rcases hB with h | ⟨b, off, h, _⟩
      · exact h
      · cases h
    subst hl0
    exact (clone_nil w cap).mono (fun e w' ⟨h1, h2⟩ => ⟨_, h1, OwnB.nil _ _, by rw [h2]; exact Below.refl _ _⟩)
  | some x => exact clone_some x cap w l hl hB
end Go.Proofs.YtfgemcmiilbodaaDoor
