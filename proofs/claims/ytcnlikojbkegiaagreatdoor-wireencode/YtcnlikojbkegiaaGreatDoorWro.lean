/- The document's written: one reply without a list. -/
import Derived.Test.YtcnlikojbkegiaaGreatDoorWrn
namespace Go.Proofs.YtcnlikojbkegiaaGreatDoor
open Go.ChangeShapes Go.WideShapes Go.ChangeAt Go.RowKit
set_option linter.unusedVariables false
set_option linter.unusedSimpArgs false
set_option maxRecDepth 20000
set_option maxHeartbeats 4000000
theorem written_1 (w0 w : World) (va ta la : Option Addr) (n vc tn tc ln lc : Nat) (l T : List Nat) (k1 : Int) (htn : tn = T.length) (hB : Bytes w0 ta T) (hS : Small T) (h4 : tn ≤ 4096) (hk1 : -9223372036854775808 ≤ k1 ∧ k1 ≤ 9223372036854775807) (hG : Gn w0 w (.slice va n vc) w (.slice va n vc) n l) (hn : n ≤ 201326592) :
    Calls Tryz.prog 51 #[.slice va n vc, .agg #[.int .i64 1, .int .i64 k1, .slice ta tn tc, .slice la ln lc]] w fun e w' => ∃ va' n' vc', e = .returned (.slice va' n' vc') ∧ Hid (Gn w0 w (.slice va n vc) w' (.slice va' n' vc') n' (l ++ ([43] ++ T ++ [13, 10]))) := by
  obtain ⟨wb, hwb⟩ : ∃ wb, wb = w.alloc (.cells #[.int .i64 1, .int .i64 k1, .slice ta tn tc, .slice la ln lc] 31) := ⟨_, rfl⟩
  have bb : Below w.heap.size w wb := by rw [hwb]; exact (Below.refl _ _).alloc (Nat.le_refl _) _
  have hbox : wb.heap[w.heap.size]? = some (.cells #[.int .i64 1, .int .i64 k1, .slice ta tn tc, .slice la ln lc] 31 (0, 0)) := by rw [hwb]; exact heap_alloc_new w _
  have c0 : wb.cell? ⟨w.heap.size, 0, none⟩ = some (.int .i64 1) := cell_of_row _ _ _ _ _ _ hbox
  have c1 : wb.cell? ⟨w.heap.size, 1, none⟩ = some (.int .i64 k1) := cell_of_row _ _ _ _ _ _ hbox
  have c2 : wb.cell? ⟨w.heap.size, 2, none⟩ = some (.slice ta tn tc) := cell_of_row _ _ _ _ _ _ hbox
  have c3 : wb.cell? ⟨w.heap.size, 3, none⟩ = some (.slice la ln lc) := cell_of_row _ _ _ _ _ _ hbox
  have GB := hide (hG.below bb)
  have C1 : (convert 25 9 (.slice ta tn tc)).run Tryz.prog wb = .ok (.string (sB T)) wb := by rw [htn]; exact conv_any ta tc wb T (hB.below (hG.bel.trans (bb.mono hG.bel.size)))
  have A1 : ∀ W, (Op.stringOp .add ⟨#[43]⟩ (sB T)).run Tryz.prog W = .ok (.string (sB ([43] ++ T))) W := fun W => sB_add W [43] T (by simp) (by omega)
  have A2 : ∀ W, (Op.stringOp .add (sB ([43] ++ T)) ⟨#[13, 10]⟩).run Tryz.prog W = .ok (.string (sB ([43] ++ T ++ [13, 10]))) W := fun W => sB_add W ([43] ++ T) [13, 10] (by simp; omega) (by simp)
  obtain ⟨R2, hR2⟩ : ∃ R2, R2 = sB ([43] ++ T ++ [13, 10]) := ⟨_, rfl⟩
  rw [← hR2] at A2
  have HX := hide (congrArg Value.string hR2)
  clear hR2
  generalize sB ([43] ++ T) = R1 at *
  have HS : Hid (Small ([43] ++ T ++ [13, 10])) := hide (small_app (small_app (small_of (by simp)) hS) (small_of (by simp)))
  have HL : Hid (0 < ([43] ++ T ++ [13, 10]).length ∧ ([43] ++ T ++ [13, 10]).length ≤ 8192) := hide (by simp; omega)
  clear hbox bb hG hB hS htn
  go_enter Tryz.func51, Tryz.ntmps51
  go_upto_region 1 with fail
  rw [← hwb]
  clear hwb
  go_wp2_with (first
    | (at_builtin; refine app_n rfl _ _ rfl rfl (.slice va n vc) n l ([43] ++ T ++ [13, 10]) rfl (unhide GB).row (unhide HX) (unhide HS) (by have := unhide HL; omega) (by have := unhide HL; omega) ?_; intro v3 w3 h3 g3; have HG3 := hide (Gn.app (unhide GB) h3 g3); obtain ⟨a3, c3', rfl⟩ := h3.shape; clear h3 g3))
  all_goals go_ret
  all_goals exact ⟨_, _, _, rfl, by first | exact HG3 | simpa using HG3⟩
theorem written_2 (w0 w : World) (va ta la : Option Addr) (n vc tn tc ln lc : Nat) (l T : List Nat) (k1 : Int) (htn : tn = T.length) (hB : Bytes w0 ta T) (hS : Small T) (h4 : tn ≤ 4096) (hk1 : -9223372036854775808 ≤ k1 ∧ k1 ≤ 9223372036854775807) (hG : Gn w0 w (.slice va n vc) w (.slice va n vc) n l) (hn : n ≤ 201326592) :
    Calls Tryz.prog 51 #[.slice va n vc, .agg #[.int .i64 2, .int .i64 k1, .slice ta tn tc, .slice la ln lc]] w fun e w' => ∃ va' n' vc', e = .returned (.slice va' n' vc') ∧ Hid (Gn w0 w (.slice va n vc) w' (.slice va' n' vc') n' (l ++ ([45] ++ T ++ [13, 10]))) := by
  obtain ⟨wb, hwb⟩ : ∃ wb, wb = w.alloc (.cells #[.int .i64 2, .int .i64 k1, .slice ta tn tc, .slice la ln lc] 31) := ⟨_, rfl⟩
  have bb : Below w.heap.size w wb := by rw [hwb]; exact (Below.refl _ _).alloc (Nat.le_refl _) _
  have hbox : wb.heap[w.heap.size]? = some (.cells #[.int .i64 2, .int .i64 k1, .slice ta tn tc, .slice la ln lc] 31 (0, 0)) := by rw [hwb]; exact heap_alloc_new w _
  have c0 : wb.cell? ⟨w.heap.size, 0, none⟩ = some (.int .i64 2) := cell_of_row _ _ _ _ _ _ hbox
  have c1 : wb.cell? ⟨w.heap.size, 1, none⟩ = some (.int .i64 k1) := cell_of_row _ _ _ _ _ _ hbox
  have c2 : wb.cell? ⟨w.heap.size, 2, none⟩ = some (.slice ta tn tc) := cell_of_row _ _ _ _ _ _ hbox
  have c3 : wb.cell? ⟨w.heap.size, 3, none⟩ = some (.slice la ln lc) := cell_of_row _ _ _ _ _ _ hbox
  have GB := hide (hG.below bb)
  have C1 : (convert 25 9 (.slice ta tn tc)).run Tryz.prog wb = .ok (.string (sB T)) wb := by rw [htn]; exact conv_any ta tc wb T (hB.below (hG.bel.trans (bb.mono hG.bel.size)))
  have A1 : ∀ W, (Op.stringOp .add ⟨#[45]⟩ (sB T)).run Tryz.prog W = .ok (.string (sB ([45] ++ T))) W := fun W => sB_add W [45] T (by simp) (by omega)
  have A2 : ∀ W, (Op.stringOp .add (sB ([45] ++ T)) ⟨#[13, 10]⟩).run Tryz.prog W = .ok (.string (sB ([45] ++ T ++ [13, 10]))) W := fun W => sB_add W ([45] ++ T) [13, 10] (by simp; omega) (by simp)
  obtain ⟨R2, hR2⟩ : ∃ R2, R2 = sB ([45] ++ T ++ [13, 10]) := ⟨_, rfl⟩
  rw [← hR2] at A2
  have HX := hide (congrArg Value.string hR2)
  clear hR2
  generalize sB ([45] ++ T) = R1 at *
  have HS : Hid (Small ([45] ++ T ++ [13, 10])) := hide (small_app (small_app (small_of (by simp)) hS) (small_of (by simp)))
  have HL : Hid (0 < ([45] ++ T ++ [13, 10]).length ∧ ([45] ++ T ++ [13, 10]).length ≤ 8192) := hide (by simp; omega)
  clear hbox bb hG hB hS htn
  go_enter Tryz.func51, Tryz.ntmps51
  go_upto_region 1 with fail
  rw [← hwb]
  clear hwb
  go_wp2_with (first
    | (at_builtin; refine app_n rfl _ _ rfl rfl (.slice va n vc) n l ([45] ++ T ++ [13, 10]) rfl (unhide GB).row (unhide HX) (unhide HS) (by have := unhide HL; omega) (by have := unhide HL; omega) ?_; intro v3 w3 h3 g3; have HG3 := hide (Gn.app (unhide GB) h3 g3); obtain ⟨a3, c3', rfl⟩ := h3.shape; clear h3 g3))
  all_goals go_ret
  all_goals exact ⟨_, _, _, rfl, by first | exact HG3 | simpa using HG3⟩
theorem written_3 (w0 w : World) (va ta la : Option Addr) (n vc tn tc ln lc : Nat) (l T : List Nat) (k1 : Int) (htn : tn = T.length) (hB : Bytes w0 ta T) (hS : Small T) (h4 : tn ≤ 4096) (hk1 : -9223372036854775808 ≤ k1 ∧ k1 ≤ 9223372036854775807) (hG : Gn w0 w (.slice va n vc) w (.slice va n vc) n l) (hn : n ≤ 201326592) :
    Calls Tryz.prog 51 #[.slice va n vc, .agg #[.int .i64 3, .int .i64 k1, .slice ta tn tc, .slice la ln lc]] w fun e w' => ∃ va' n' vc', e = .returned (.slice va' n' vc') ∧ Hid (Gn w0 w (.slice va n vc) w' (.slice va' n' vc') n' (l ++ (numL 58 k1))) := by
  obtain ⟨wb, hwb⟩ : ∃ wb, wb = w.alloc (.cells #[.int .i64 3, .int .i64 k1, .slice ta tn tc, .slice la ln lc] 31) := ⟨_, rfl⟩
  have bb : Below w.heap.size w wb := by rw [hwb]; exact (Below.refl _ _).alloc (Nat.le_refl _) _
  have hbox : wb.heap[w.heap.size]? = some (.cells #[.int .i64 3, .int .i64 k1, .slice ta tn tc, .slice la ln lc] 31 (0, 0)) := by rw [hwb]; exact heap_alloc_new w _
  have c0 : wb.cell? ⟨w.heap.size, 0, none⟩ = some (.int .i64 3) := cell_of_row _ _ _ _ _ _ hbox
  have c1 : wb.cell? ⟨w.heap.size, 1, none⟩ = some (.int .i64 k1) := cell_of_row _ _ _ _ _ _ hbox
  have c2 : wb.cell? ⟨w.heap.size, 2, none⟩ = some (.slice ta tn tc) := cell_of_row _ _ _ _ _ _ hbox
  have c3 : wb.cell? ⟨w.heap.size, 3, none⟩ = some (.slice la ln lc) := cell_of_row _ _ _ _ _ _ hbox
  have GB := hide (hG.below bb)
  have spl := spell_short k1 hk1.1 hk1.2
  have CN : Hid (Calls Tryz.prog 46 #[.int .i64 k1] wb fun e w' => e = .returned (.string (sB (Larder.spellI k1))) ∧ Hid (Gn w0 w (.slice va n vc) w' (.slice va n vc) n l)) := hide ((texted_any k1 hk1.1 hk1.2 wb).mono (fun e w' h => ⟨h.1, hide ((unhide GB).below h.2)⟩))
  have A1 : ∀ W, (Op.stringOp .add ⟨#[58]⟩ (sB (Larder.spellI k1))).run Tryz.prog W = .ok (.string (sB ([58] ++ Larder.spellI k1))) W := fun W => sB_add W [58] _ (by simp) (by omega)
  have A2 : ∀ W, (Op.stringOp .add (sB ([58] ++ Larder.spellI k1)) ⟨#[13, 10]⟩).run Tryz.prog W = .ok (.string (sB (numL 58 k1))) W := fun W => sB_add W ([58] ++ Larder.spellI k1) [13, 10] (by simp; omega) (by simp)
  obtain ⟨R2, hR2⟩ : ∃ R2, R2 = sB (numL 58 k1) := ⟨_, rfl⟩
  rw [← hR2] at A2
  have HX := hide (congrArg Value.string hR2)
  clear hR2
  generalize sB ([58] ++ Larder.spellI k1) = R1 at *
  generalize sB (Larder.spellI k1) = R0 at *
  have HS : Hid (Small (numL 58 k1)) := hide (numL_small 58 _ (by decide))
  have HL : Hid (0 < (numL 58 k1).length ∧ (numL 58 k1).length ≤ 8192) := hide (by unfold numL; simp only [List.length_append, List.length_cons, List.length_nil]; omega)
  clear hbox bb hG hB hS htn
  go_enter Tryz.func51, Tryz.ntmps51
  go_upto_region 1 with fail
  rw [← hwb]
  clear hwb
  go_wp2_with (first
    | (at_builtin; refine app_n rfl _ _ rfl rfl (.slice va n vc) n l (numL 58 k1) rfl (unhide G5).row (unhide HX) (unhide HS) (by have := unhide HL; omega) (by have := unhide HL; omega) ?_; intro v3 w3 h3 g3; have HG3 := hide (Gn.app (unhide G5) h3 g3); obtain ⟨a3, c3', rfl⟩ := h3.shape; clear h3 g3)
    | (go_at_call 46; refine (unhide CN).mono ?_; rintro e w5 ⟨rfl, G5⟩))
  all_goals go_ret
  all_goals exact ⟨_, _, _, rfl, by first | exact HG3 | simpa using HG3⟩
theorem written_4 (w0 w : World) (va ta la : Option Addr) (n vc tn tc ln lc : Nat) (l T : List Nat) (k1 : Int) (htn : tn = T.length) (hB : Bytes w0 ta T) (hS : Small T) (h4 : tn ≤ 4096) (hk1 : -9223372036854775808 ≤ k1 ∧ k1 ≤ 9223372036854775807) (hG : Gn w0 w (.slice va n vc) w (.slice va n vc) n l) (hn : n ≤ 201326592) :
    Calls Tryz.prog 51 #[.slice va n vc, .agg #[.int .i64 4, .int .i64 k1, .slice ta tn tc, .slice la ln lc]] w fun e w' => ∃ va' n' vc', e = .returned (.slice va' n' vc') ∧ Hid (Gn w0 w (.slice va n vc) w' (.slice va' n' vc') n' (l ++ (textL T))) := by
  obtain ⟨wb, hwb⟩ : ∃ wb, wb = w.alloc (.cells #[.int .i64 4, .int .i64 k1, .slice ta tn tc, .slice la ln lc] 31) := ⟨_, rfl⟩
  have bb : Below w.heap.size w wb := by rw [hwb]; exact (Below.refl _ _).alloc (Nat.le_refl _) _
  have hbox : wb.heap[w.heap.size]? = some (.cells #[.int .i64 4, .int .i64 k1, .slice ta tn tc, .slice la ln lc] 31 (0, 0)) := by rw [hwb]; exact heap_alloc_new w _
  have c0 : wb.cell? ⟨w.heap.size, 0, none⟩ = some (.int .i64 4) := cell_of_row _ _ _ _ _ _ hbox
  have c1 : wb.cell? ⟨w.heap.size, 1, none⟩ = some (.int .i64 k1) := cell_of_row _ _ _ _ _ _ hbox
  have c2 : wb.cell? ⟨w.heap.size, 2, none⟩ = some (.slice ta tn tc) := cell_of_row _ _ _ _ _ _ hbox
  have c3 : wb.cell? ⟨w.heap.size, 3, none⟩ = some (.slice la ln lc) := cell_of_row _ _ _ _ _ _ hbox
  have GB := hide (hG.below bb)
  have CN : Hid (Calls Tryz.prog 47 #[.slice ta tn tc] wb fun e w' => e = .returned (.string (sB (textL T))) ∧ Hid (Gn w0 w (.slice va n vc) w' (.slice va n vc) n l)) := hide (by rw [htn]; exact (bulk_any ta tc T wb (hB.below (hG.bel.trans (bb.mono hG.bel.size))) (by omega)).mono (fun e w' h => ⟨h.1, hide ((unhide GB).below h.2)⟩))
  obtain ⟨R2, hR2⟩ : ∃ R2, R2 = sB (textL T) := ⟨_, rfl⟩
  rw [← hR2] at CN
  have HX := hide (congrArg Value.string hR2)
  clear hR2
  have HS : Hid (Small (textL T)) := hide (textL_small T hS)
  have HL : Hid (0 < (textL T).length ∧ (textL T).length ≤ 8192) := hide (by have := textL_len T (by omega); refine ⟨?_, by omega⟩; unfold textL; simp only [List.length_append, List.length_cons, List.length_nil]; omega)
  clear hbox bb hG hB hS htn
  go_enter Tryz.func51, Tryz.ntmps51
  go_upto_region 1 with fail
  rw [← hwb]
  clear hwb
  go_wp2_with (first
    | (at_builtin; refine app_n rfl _ _ rfl rfl (.slice va n vc) n l (textL T) rfl (unhide G5).row (unhide HX) (unhide HS) (by have := unhide HL; omega) (by have := unhide HL; omega) ?_; intro v3 w3 h3 g3; have HG3 := hide (Gn.app (unhide G5) h3 g3); obtain ⟨a3, c3', rfl⟩ := h3.shape; clear h3 g3)
    | (go_at_call 47; refine (unhide CN).mono ?_; rintro e w5 ⟨rfl, G5⟩))
  all_goals go_ret
  all_goals exact ⟨_, _, _, rfl, by first | exact HG3 | simpa using HG3⟩
theorem written_5 (w0 w : World) (va ta la : Option Addr) (n vc tn tc ln lc : Nat) (l T : List Nat) (k1 : Int) (htn : tn = T.length) (hB : Bytes w0 ta T) (hS : Small T) (h4 : tn ≤ 4096) (hk1 : -9223372036854775808 ≤ k1 ∧ k1 ≤ 9223372036854775807) (hG : Gn w0 w (.slice va n vc) w (.slice va n vc) n l) (hn : n ≤ 201326592) :
    Calls Tryz.prog 51 #[.slice va n vc, .agg #[.int .i64 5, .int .i64 k1, .slice ta tn tc, .slice la ln lc]] w fun e w' => ∃ va' n' vc', e = .returned (.slice va' n' vc') ∧ Hid (Gn w0 w (.slice va n vc) w' (.slice va' n' vc') n' (l ++ ([36, 45, 49, 13, 10]))) := by
  obtain ⟨wb, hwb⟩ : ∃ wb, wb = w.alloc (.cells #[.int .i64 5, .int .i64 k1, .slice ta tn tc, .slice la ln lc] 31) := ⟨_, rfl⟩
  have bb : Below w.heap.size w wb := by rw [hwb]; exact (Below.refl _ _).alloc (Nat.le_refl _) _
  have hbox : wb.heap[w.heap.size]? = some (.cells #[.int .i64 5, .int .i64 k1, .slice ta tn tc, .slice la ln lc] 31 (0, 0)) := by rw [hwb]; exact heap_alloc_new w _
  have c0 : wb.cell? ⟨w.heap.size, 0, none⟩ = some (.int .i64 5) := cell_of_row _ _ _ _ _ _ hbox
  have c1 : wb.cell? ⟨w.heap.size, 1, none⟩ = some (.int .i64 k1) := cell_of_row _ _ _ _ _ _ hbox
  have c2 : wb.cell? ⟨w.heap.size, 2, none⟩ = some (.slice ta tn tc) := cell_of_row _ _ _ _ _ _ hbox
  have c3 : wb.cell? ⟨w.heap.size, 3, none⟩ = some (.slice la ln lc) := cell_of_row _ _ _ _ _ _ hbox
  have GB := hide (hG.below bb)
  have HX : Hid (Value.string ⟨#[36, 45, 49, 13, 10]⟩ = Value.string (sB [36, 45, 49, 13, 10])) := hide (by kernel_rfl)
  have HS : Hid (Small [36, 45, 49, 13, 10]) := hide (small_of (by simp))
  have HL : Hid (0 < [36, 45, 49, 13, 10].length ∧ [36, 45, 49, 13, 10].length ≤ 8192) := hide (by simp)
  clear hbox bb hG hB hS htn
  go_enter Tryz.func51, Tryz.ntmps51
  go_upto_region 1 with fail
  rw [← hwb]
  clear hwb
  go_wp2_with (first
    | (at_builtin; refine app_n rfl _ _ rfl rfl (.slice va n vc) n l ([36, 45, 49, 13, 10]) rfl (unhide GB).row (unhide HX) (unhide HS) (by have := unhide HL; omega) (by have := unhide HL; omega) ?_; intro v3 w3 h3 g3; have HG3 := hide (Gn.app (unhide GB) h3 g3); obtain ⟨a3, c3', rfl⟩ := h3.shape; clear h3 g3))
  all_goals go_ret
  all_goals exact ⟨_, _, _, rfl, by first | exact HG3 | simpa using HG3⟩
theorem written_7 (w0 w : World) (va ta la : Option Addr) (n vc tn tc ln lc : Nat) (l T : List Nat) (k1 : Int) (htn : tn = T.length) (hB : Bytes w0 ta T) (hS : Small T) (h4 : tn ≤ 4096) (hk1 : -9223372036854775808 ≤ k1 ∧ k1 ≤ 9223372036854775807) (hG : Gn w0 w (.slice va n vc) w (.slice va n vc) n l) (hn : n ≤ 201326592) :
    Calls Tryz.prog 51 #[.slice va n vc, .agg #[.int .i64 7, .int .i64 k1, .slice ta tn tc, .slice la ln lc]] w fun e w' => ∃ va' n' vc', e = .returned (.slice va' n' vc') ∧ Hid (Gn w0 w (.slice va n vc) w' (.slice va' n' vc') n' (l ++ ([42, 45, 49, 13, 10]))) := by
  obtain ⟨wb, hwb⟩ : ∃ wb, wb = w.alloc (.cells #[.int .i64 7, .int .i64 k1, .slice ta tn tc, .slice la ln lc] 31) := ⟨_, rfl⟩
  have bb : Below w.heap.size w wb := by rw [hwb]; exact (Below.refl _ _).alloc (Nat.le_refl _) _
  have hbox : wb.heap[w.heap.size]? = some (.cells #[.int .i64 7, .int .i64 k1, .slice ta tn tc, .slice la ln lc] 31 (0, 0)) := by rw [hwb]; exact heap_alloc_new w _
  have c0 : wb.cell? ⟨w.heap.size, 0, none⟩ = some (.int .i64 7) := cell_of_row _ _ _ _ _ _ hbox
  have c1 : wb.cell? ⟨w.heap.size, 1, none⟩ = some (.int .i64 k1) := cell_of_row _ _ _ _ _ _ hbox
  have c2 : wb.cell? ⟨w.heap.size, 2, none⟩ = some (.slice ta tn tc) := cell_of_row _ _ _ _ _ _ hbox
  have c3 : wb.cell? ⟨w.heap.size, 3, none⟩ = some (.slice la ln lc) := cell_of_row _ _ _ _ _ _ hbox
  have GB := hide (hG.below bb)
  have HX : Hid (Value.string ⟨#[42, 45, 49, 13, 10]⟩ = Value.string (sB [42, 45, 49, 13, 10])) := hide (by kernel_rfl)
  have HS : Hid (Small [42, 45, 49, 13, 10]) := hide (small_of (by simp))
  have HL : Hid (0 < [42, 45, 49, 13, 10].length ∧ [42, 45, 49, 13, 10].length ≤ 8192) := hide (by simp)
  clear hbox bb hG hB hS htn
  go_enter Tryz.func51, Tryz.ntmps51
  go_upto_region 1 with fail
  rw [← hwb]
  clear hwb
  go_wp2_with (first
    | (at_builtin; refine app_n rfl _ _ rfl rfl (.slice va n vc) n l ([42, 45, 49, 13, 10]) rfl (unhide GB).row (unhide HX) (unhide HS) (by have := unhide HL; omega) (by have := unhide HL; omega) ?_; intro v3 w3 h3 g3; have HG3 := hide (Gn.app (unhide GB) h3 g3); obtain ⟨a3, c3', rfl⟩ := h3.shape; clear h3 g3))
  all_goals go_ret
  all_goals exact ⟨_, _, _, rfl, by first | exact HG3 | simpa using HG3⟩
end Go.Proofs.YtcnlikojbkegiaaGreatDoor
