/- The document's row, and its Commands. -/
import Derived.Test.YteooecjmnombfaaDoorLs
namespace Go.Proofs.YteooecjmnombfaaDoor
open Go.ChangeShapes Go.WideShapes Go.ChangeAt Go.RowKit
set_option linter.unusedVariables false
set_option maxRecDepth 100000
set_option maxHeartbeats 4000000

theorem row_any (w : World) (n : ByteArray) (a : Int) (b : Bool) (f l s k : Int) : Calls Tryd.prog 8 #[.string n, .int .i64 a, .bool b, .int .i64 f, .int .i64 l, .int .i64 s, .int .i64 k] w fun e w' => e = .returned (.agg #[.string n, .int .i64 a, .bool b, .int .i64 f, .int .i64 l, .int .i64 s, .int .i64 k]) ∧ Below w.heap.size w w' := by
  go_enter Tryd.func8, Tryd.ntmps8
  go_wp2
  refine bodyPost_ret (results_cell_row (p := 14) (ty := 29) rfl _ _ w.heap.size 29 _ (0, 0) _ rfl (heap_alloc_last w _) Tryd.underlying29 rfl (by kernel_rfl)) rfl ⟨rfl, (Below.refl _ _).alloc (Nat.le_refl _) _⟩
def R1 : List Value := ((tabC.take 13).map Cm.row).flatten
def R2 : List Value := ((tabC.drop 13).map Cm.row).flatten
theorem one1 : ∀ x ∈ R1, x.oneCell' = true := by
  have h : R1.all (fun v => v.oneCell') = true := by decide +kernel
  exact fun x hx => List.all_eq_true.1 h x hx
theorem one2 : ∀ x ∈ R2, x.oneCell' = true := by
  have h : R2.all (fun v => v.oneCell') = true := by decide +kernel
  exact fun x hx => List.all_eq_true.1 h x hx
theorem len1 : R1.length = 13 * 7 := by decide
theorem len2 : R2.length = 16 * 7 := by decide
theorem both : R1 ++ R2 = tabL := by unfold R1 R2 tabL; rw [← List.flatten_append, ← List.map_append, List.take_append_drop]
theorem ref_any (w : World) : Calls Tryd.prog 6 #[] w fun e w' => ∃ b c, e = .returned (.slice (some ⟨b, 0, none⟩) 29 c) ∧ Hid (b < w'.heap.size ∧ (∀ k, k < 203 → w'.cell? ⟨b, k, none⟩ = tabA[k]?) ∧ Below w.heap.size w w') := by
  have CR : Hid (∀ (n : ByteArray) (a : Int) (b : Bool) (f l s k : Int) W, Hid (Below w.heap.size w W) → Calls Tryd.prog 8 #[.string n, .int .i64 a, .bool b, .int .i64 f, .int .i64 l, .int .i64 s, .int .i64 k] W fun e w' => e = .returned (.agg #[.string n, .int .i64 a, .bool b, .int .i64 f, .int .i64 l, .int .i64 s, .int .i64 k]) ∧ Hid (Below w.heap.size w w')) := hide (fun n a b f l s k W hW => (row_any W n a b f l s k).mono (fun e w' h => ⟨h.1, hide (bel_chain (unhide hW) h.2 (unhide hW).size)⟩))
  have B0 : Hid (Below w.heap.size w w) := hide (Below.refl _ _)
  obtain ⟨i6, hi6, hz6, hs6, hb6⟩ := info_parts Tryd.info29
  go_enter Tryd.func6, Tryd.ntmps6
  go_wp2_with (first
    | (go_at_call 8; refine (unhide CR _ _ _ _ _ _ _ _ (by assumption)).mono ?_; rintro e w1 ⟨rfl, k1⟩)
    | (refine wpList_buildSlice rfl 24 29 13 _ rfl R1.toArray i6 _ Tryd.underlying24 hi6 hz6 (by rw [hs6]; decide) (by rw [hs6]; decide) (by rw [hs6]; as_aux_lemma => kernel_rfl) ?_)
    | (at_builtin; refine append_rws rfl _ _ 24 rfl 29 i6 _ 7 64 Tryd.underlying24 hi6 hz6 hs6 hb6 rfl 29 (.slice none 0 0) 0 (fun _ => undef) rfl (.inl ⟨rfl, rfl⟩) (.inl rfl) w1.heap.size 13 rfl R1 (by decide) len1 (made_cells w1 R1 29) one1 (by decide) (by decide) ?_; intro v4 w4 h4 g4; obtain ⟨a4, c4, rfl⟩ := h4.shape))
  have bA : Below w.heap.size w (w1.alloc (.cells R1.toArray 29)) := bel_chain (unhide k1) ((Below.refl _ _).alloc (Nat.le_refl _) _) (unhide k1).size
  have nov : ∀ g, (Value.slice none 0 0).ownBlock = some g → w.heap.size ≤ g := fun g hg => by simp [Value.ownBlock] at hg
  have K4 : Hid (Below w.heap.size w w4) := hide (bA.trans (g4.below _ bA.size nov))
  have O4 : Hid (∀ g, (Value.slice a4 (0 + 13) c4).ownBlock = some g → w.heap.size ≤ g) := hide (g4.own _ bA.size nov)
  have H4 := hide h4
  clear h4 g4 nov bA k1
  obtain ⟨F, hF⟩ : ∃ F : Nat → Value, F = (fun k => if k < 0 * 7 then undef else R1.getD (k - 0 * 7) undef) := ⟨_, rfl⟩
  rw [← hF] at H4
  have HF := hide hF
  clear hF
  have CS : Hid (∀ (n : ByteArray) (a : Int) (b : Bool) (f l s k : Int) W, Hid (Below w.heap.size w W ∧ Rws W 29 7 (.slice a4 13 c4) 13 F) → Calls Tryd.prog 8 #[.string n, .int .i64 a, .bool b, .int .i64 f, .int .i64 l, .int .i64 s, .int .i64 k] W fun e w' => e = .returned (.agg #[.string n, .int .i64 a, .bool b, .int .i64 f, .int .i64 l, .int .i64 s, .int .i64 k]) ∧ Hid (Below w.heap.size w w' ∧ Rws w' 29 7 (.slice a4 13 c4) 13 F)) := hide (fun n a b f l s k W hW => (row_any W n a b f l s k).mono (fun e w' h => ⟨h.1, hide ⟨bel_chain (unhide hW).1 h.2 (unhide hW).1.size, (unhide hW).2.below h.2⟩⟩))
  have k1 : Hid (Below w.heap.size w w4 ∧ Rws w4 29 7 (.slice a4 13 c4) 13 F) := hide ⟨unhide K4, unhide H4⟩
  clear CR K4 H4
  go_wp2_with (first
    | (go_at_call 8; refine (unhide CS _ _ _ _ _ _ _ _ (by assumption)).mono ?_; rintro e w1 ⟨rfl, k1⟩)
    | (refine wpList_buildSlice rfl 24 29 16 _ rfl R2.toArray i6 _ Tryd.underlying24 hi6 hz6 (by rw [hs6]; decide) (by rw [hs6]; decide) (by rw [hs6]; as_aux_lemma => kernel_rfl) ?_)
    | (at_builtin; refine append_rws rfl _ _ 24 rfl 29 i6 _ 7 64 Tryd.underlying24 hi6 hz6 hs6 hb6 rfl 29 (.slice a4 13 c4) 13 F rfl ((unhide k1).2.below ((Below.refl _ _).alloc (Nat.le_refl _) _)) (.inl rfl) w1.heap.size 16 rfl R2 (by decide) len2 (made_cells w1 R2 29) one2 (by decide) (by decide) ?_; intro v5 w5 h5 g5; obtain ⟨b5, c5, hv5, hl5, hlt5, hat5⟩ := h5.at (by decide); cases hv5))
  go_ret
  have b5 : Below w.heap.size w (w1.alloc (.cells R2.toArray 29)) := bel_chain (unhide k1).1 ((Below.refl _ _).alloc (Nat.le_refl _) _) (unhide k1).1.size
  refine ⟨_, _, rfl, hide ⟨hlt5, fun k hk => ?_, b5.trans (g5.below _ b5.size (unhide O4))⟩⟩
  rw [hat5 k (by omega), show tabA[k]? = tabL[k]? from by show tabL.toArray[k]? = _; rw [List.getElem?_toArray], ← both]
  have l1 := len1
  have l2 := len2
  have hFk : F k = R1.getD k undef := by rw [unhide HF]; show (if k < 0 * 7 then undef else R1.getD (k - 0 * 7) undef) = _; rw [if_neg (by omega)]; rfl
  by_cases h : k < 13 * 7
  · rw [if_pos h, List.getElem?_append_left (by omega), hFk, List.getD_eq_getElem?_getD, List.getElem?_eq_getElem (by omega)]; rfl
  · rw [if_neg h, List.getElem?_append_right (by omega), l1, List.getD_eq_getElem?_getD, List.getElem?_eq_getElem (by omega)]; rfl
end Go.Proofs.YteooecjmnombfaaDoor
