/- The shapes that the laws take; a write into an object. -/
import Derived.Test.YtdgdnpgjbphgaabImage
namespace Go.Proofs.Ytdgdnpgjbphgaab
open Go.ChangeShapes Go.WideShapes Go.ChangeAt Go.RowKit
set_option linter.unusedVariables false
set_option maxRecDepth 100000
set_option maxHeartbeats 1000000

theorem scells_at (L : List (Int × Int × Int)) (i : Nat) (h : i < L.length) : (scells L)[i * 3]? = some (.int .i64 (L.getD i (0, 0, 0)).1) ∧ (scells L)[i * 3 + 1]? = some (.int .i64 (L.getD i (0, 0, 0)).2.1) ∧ (scells L)[i * 3 + 2]? = some (.int .i64 (L.getD i (0, 0, 0)).2.2) := by
  induction L generalizing i with
  | nil => simp at h
  | cons s L ih =>
    cases i with
    | zero => exact ⟨rfl, rfl, rfl⟩
    | succ i =>
      have h1 := ih i (by simpa using h)
      have e : scells (s :: L) = [.int .i64 s.1, .int .i64 s.2.1, .int .i64 s.2.2] ++ scells L := by unfold scells; rw [List.flatMap_cons]
      have hd : (s :: L).getD (i + 1) (0, 0, 0) = L.getD i (0, 0, 0) := by simp
      rw [hd, e]
      refine ⟨?_, ?_, ?_⟩
      · rw [List.getElem?_append_right (by simp; omega)]; simp only [List.length_cons, List.length_nil]; rw [show (i + 1) * 3 - (0 + 1 + 1 + 1) = i * 3 by omega]; exact h1.1
      · rw [List.getElem?_append_right (by simp; omega)]; simp only [List.length_cons, List.length_nil]; rw [show (i + 1) * 3 + 1 - (0 + 1 + 1 + 1) = i * 3 + 1 by omega]; exact h1.2.1
      · rw [List.getElem?_append_right (by simp; omega)]; simp only [List.length_cons, List.length_nil]; rw [show (i + 1) * 3 + 2 - (0 + 1 + 1 + 1) = i * 3 + 2 by omega]; exact h1.2.2
end Go.Proofs.Ytdgdnpgjbphgaab
