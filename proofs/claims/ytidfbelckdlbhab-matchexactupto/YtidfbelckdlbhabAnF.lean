/- answers: Fold. -/
import Derived.Test.YtidfbelckdlbhabUpr
import Derived.Test.YtidfbelckdlbhabBnx
namespace Go.Proofs.Ytidfbelckdlbhab
open Go.ChangeShapes Go.WideShapes Go.ChangeAt Go.RowKit
set_option linter.unusedVariables false
set_option maxRecDepth 20000
set_option maxHeartbeats 2000000

theorem answers_fold {aP : Option Addr} {cP : Nat} {P : List Nat} (v2 v3 v4 v5 v6 v7 v8 v9 v10 v11 v12 v13 v14 v15 v16 v17 : Value) (w : World) (hP : InB w aP cP P) :
    Calls Try.prog 9 #[.agg #[.int .i64 7, .slice aP P.length cP, v2, v3, v4, v5, v6, v7, v8, v9, v10, v11, v12, v13, v14, v15, v16, v17]] w fun e w' => e = .returned (.bool true) ∧ Below w.heap.size w w' := by
  obtain ⟨n, hn⟩ : ∃ n, n = P.length := ⟨_, rfl⟩
  rw [← hn]
  have h0 : Bx w #[.int .i64 7, .slice aP n cP, v2, v3, v4, v5, v6, v7, v8, v9, v10, v11, v12, v13, v14, v15, v16, v17] (w.alloc (.cells #[.int .i64 7, .slice aP n cP, v2, v3, v4, v5, v6, v7, v8, v9, v10, v11, v12, v13, v14, v15, v16, v17] 34)) := ⟨heap_alloc_new _ _, (Below.refl _ _).alloc (Nat.le_refl _) _⟩
  obtain ⟨bP, sP, q1, q2, q3, q4⟩ := hP
  have kx : ∀ W : World, Bx w #[.int .i64 7, .slice aP n cP, v2, v3, v4, v5, v6, v7, v8, v9, v10, v11, v12, v13, v14, v15, v16, v17] W → W.cell? ⟨w.heap.size, 1, none⟩ = some (.slice aP n cP) := fun W h => by rw [cell_of_row _ _ _ _ _ _ h.1]; rfl
  have F1 : Hid (Calls Try.prog 15 #[.slice aP n cP] (w.alloc (.cells #[.int .i64 7, .slice aP n cP, v2, v3, v4, v5, v6, v7, v8, v9, v10, v11, v12, v13, v14, v15, v16, v17] 34)).drew fun e w' => ∃ a' c', e = .returned (.slice a' n c') ∧ Hid (Bx w #[.int .i64 7, .slice aP n cP, v2, v3, v4, v5, v6, v7, v8, v9, v10, v11, v12, v13, v14, v15, v16, v17] w' ∧ Bytes w' a' P) ∧ w'.cell? ⟨w.heap.size, 1, none⟩ = some (.slice aP n cP)) := hide (by
    rw [hn] at h0 kx ⊢
    exact (twin_any aP cP P (by omega) (bP.below h0.drew.2) q4).mono (fun e w' ⟨a', c', g1, g2, _, _, g5⟩ => ⟨a', c', g1, hide ⟨h0.drew.next g5, g2⟩, kx w' (h0.drew.next g5)⟩))
  have F2 : Hid (∀ W a' c', Hid (Bx w #[.int .i64 7, .slice aP n cP, v2, v3, v4, v5, v6, v7, v8, v9, v10, v11, v12, v13, v14, v15, v16, v17] W ∧ Bytes W a' P) → Calls Try.prog 19 #[.slice a' n c'] W fun e w' => e = .returned (.string (str (P.map Larder.up))) ∧ Hid (Bx w #[.int .i64 7, .slice aP n cP, v2, v3, v4, v5, v6, v7, v8, v9, v10, v11, v12, v13, v14, v15, v16, v17] w') ∧ w'.cell? ⟨w.heap.size, 1, none⟩ = some (.slice aP n cP)) := hide (fun W a' c' hW => by
    have h := fold_any a' c' W P (by omega) sP (unhide hW).2
    rw [← hn] at h
    exact h.mono (fun e w' ⟨g1, g2⟩ => ⟨g1, hide ((unhide hW).1.next g2), kx w' ((unhide hW).1.next g2)⟩))
  have F3 : Hid (∀ W, Hid (Bx w #[.int .i64 7, .slice aP n cP, v2, v3, v4, v5, v6, v7, v8, v9, v10, v11, v12, v13, v14, v15, v16, v17] W) → Calls Try.prog 20 #[.slice aP n cP] W fun e w' => e = .returned (.string (str (P.map Larder.up))) ∧ Hid (Bx w #[.int .i64 7, .slice aP n cP, v2, v3, v4, v5, v6, v7, v8, v9, v10, v11, v12, v13, v14, v15, v16, v17] w') ∧ w'.cell? ⟨w.heap.size, 1, none⟩ = some (.slice aP n cP)) := hide (fun W hW => by
    have h := upper_any aP cP W P (by omega) sP (bP.below (unhide hW).2)
    rw [← hn] at h
    exact h.mono (fun e w' ⟨g1, g2⟩ => ⟨g1, hide ((unhide hW).next g2), kx w' ((unhide hW).next g2)⟩))
  clear h0 kx bP sP q1 q2 q3 q4 hn
  obtain ⟨R, hR⟩ : ∃ R, R = str (P.map Larder.up) := ⟨_, rfl⟩
  rw [← hR] at F2 F3
  clear hR
  go_enter Try.func9, Try.ntmps9
  go_wp2_with fail
  go_region_held3 (fun w' => w'.cell? ⟨w.heap.size, 1, none⟩ = some (.slice aP n cP)) (go_keep) (first | (go_at_call 15; refine (unhide F1).mono ?_; rintro e w5 ⟨a1, c1, rfl, g5, x1⟩) | (go_at_call 19; refine (unhide F2 _ a1 c1 g5).mono ?_; rintro e w6 ⟨rfl, g6, x2⟩) | (go_at_call 20; refine (unhide F3 _ g6).mono ?_; rintro e w7 ⟨rfl, g7, x3⟩))
  all_goals go_wp2
  all_goals go_ret
  all_goals exact ⟨ret_bool (by simp), (unhide g7).2⟩
end Go.Proofs.Ytidfbelckdlbhab
