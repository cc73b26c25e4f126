/- Image; the block of shapes, seen by its objects. -/
import Derived.Test.YtdgdnpgjbphgaabFill
import Derived.Laws.CopyOwn
namespace Go.Proofs.Ytdgdnpgjbphgaab
open Go.ChangeShapes Go.WideShapes Go.ChangeAt Go.RowKit
set_option linter.unusedVariables false
set_option maxRecDepth 100000
set_option maxHeartbeats 1000000
/-- the objects L lie in the block; whatever their fields hold -/
structure Kept (L : List (Nat × Nat × Nat)) (ws : List Nat) (hs : List Bool) : Prop where
  marks : ∀ k, k < place L L.length → (hs.getD k false = true ↔ ∃ j, j < L.length ∧ k = place L j)
  heads : ∀ j, j < L.length → ws.getD (place L j) 0 = headOf (L.getD j (0, 0, 0))
  zero : ws.getD 0 0 = 0
theorem LaidTo.kept {L : List (Nat × Nat × Nat)} {ws : List Nat} {hs : List Bool} (h : LaidTo L L.length ws hs) : Kept L ws hs := ⟨h.marks, h.heads, h.zero⟩

theorem head_parts (k r s : Nat) (hk : k ≤ 255) (hr : r ≤ 1048576) (hs : s ≤ 1048576) :
    headOf (k, r, s) % 256 = k ∧ headOf (k, r, s) / 256 % 16777216 = r ∧ headOf (k, r, s) / 4294967296 % 16777216 = s ∧ headOf (k, r, s) < 72057594037927936 := by
  unfold headOf
  dsimp only
  refine ⟨by omega, by omega, by omega, by omega⟩
theorem head_at {L : List (Nat × Nat × Nat)} (hg : Good L) (j : Nat) (hj : j < L.length) :
    headOf (L.getD j (0, 0, 0)) % 256 = (L.getD j (0, 0, 0)).1 ∧ headOf (L.getD j (0, 0, 0)) / 256 % 16777216 = (L.getD j (0, 0, 0)).2.1 ∧ headOf (L.getD j (0, 0, 0)) / 4294967296 % 16777216 = (L.getD j (0, 0, 0)).2.2 ∧ headOf (L.getD j (0, 0, 0)) < 72057594037927936 := by
  obtain ⟨h1, h2, h3, h4⟩ := hg j hj
  exact head_parts (L.getD j (0, 0, 0)).1 (L.getD j (0, 0, 0)).2.1 (L.getD j (0, 0, 0)).2.2 h2 (by omega) (by omega)
theorem Kept.obj {L : List (Nat × Nat × Nat)} {ws : List Nat} {hs : List Bool} (h : Kept L ws hs) (hg : Good L) (j : Nat) (hj : j < L.length) :
    objRes ws hs (place L L.length) (place L j : Nat) = ((L.getD j (0, 0, 0)).1, (L.getD j (0, 0, 0)).2.1, (L.getD j (0, 0, 0)).2.2, 0) := by
  have h1 := place_pos L j
  have h2 := place_lt L hj
  have h3 : 1 ≤ wd (L.getD j (0, 0, 0)) := by unfold wd; omega
  obtain ⟨q1, q2, q3, q4⟩ := head_at hg j hj
  unfold objRes
  rw [if_pos ⟨by omega, by omega, by rw [Int.toNat_natCast]; exact (h.marks _ (by omega)).2 ⟨j, hj, rfl⟩⟩, Int.toNat_natCast, h.heads j hj, if_neg (by omega), q1, q2, q3]
theorem Kept.other {L : List (Nat × Nat × Nat)} {ws : List Nat} {hs : List Bool} (h : Kept L ws hs) (at' : Int) (hn : ∀ j, j < L.length → at' ≠ (place L j : Nat)) :
    objRes ws hs (place L L.length) at' = (0, 0, 0, 23) := by
  unfold objRes
  rw [if_neg]
  rintro ⟨h1, h2, h3⟩
  obtain ⟨j, hj, e⟩ := (h.marks at'.toNat (by omega)).1 h3
  exact hn j hj (by omega)
theorem Kept.all {L : List (Nat × Nat × Nat)} {ws : List Nat} {hs : List Bool} (h : Kept L ws hs) (hg : Good L) : Heads ws hs (place L L.length) := by
  intro k hk hm _
  obtain ⟨j, hj, rfl⟩ := (h.marks k hk).1 hm
  obtain ⟨q1, q2, q3, q4⟩ := head_at hg j hj
  obtain ⟨g1, g2, g3, g4⟩ := hg j hj
  have h2 := place_lt L hj
  unfold wd at h2
  rw [h.heads j hj]
  unfold IsHead Fits
  rw [q1, q2, q3]
  exact ⟨⟨⟨by omega, by omega, by omega, by omega, by omega, by omega⟩, q4⟩, by omega⟩
/-- a field is written: the objects are still the same -/
theorem Kept.put {L : List (Nat × Nat × Nat)} {ws : List Nat} {hs : List Bool} (h : Kept L ws hs) (o f v : Nat) (ho : o < L.length) (hf : f < (L.getD o (0, 0, 0)).2.1 + (L.getD o (0, 0, 0)).2.2) (hl : place L L.length ≤ ws.length) :
    Kept L (ws.set (place L o + 1 + f) v) hs := by
  have h2 := place_lt L ho
  unfold wd at h2
  refine ⟨h.marks, fun j hj => ?_, by rw [getD_set ws _ _ _ (by omega), if_neg (by omega)]; exact h.zero⟩
  rw [getD_set ws _ _ _ (by omega), if_neg, h.heads j hj]
  intro e
  have hjo : j ≠ o := by intro e'; subst e'; omega
  rcases Nat.lt_or_gt_of_ne hjo with hlt | hgt
  · have := place_le L (show j ≤ o by omega); omega
  · have := place_lt L hgt; unfold wd at this; omega
/-- fields of the objects lie apart -/
theorem place_apart (L : List (Nat × Nat × Nat)) (o f j g : Nat) (hf : f < (L.getD o (0, 0, 0)).2.1 + (L.getD o (0, 0, 0)).2.2) (hg : g < (L.getD j (0, 0, 0)).2.1 + (L.getD j (0, 0, 0)).2.2) (e : place L o + 1 + f = place L j + 1 + g) : o = j ∧ f = g := by
  by_cases h : o = j
  · subst h; exact ⟨rfl, by omega⟩
  · exfalso
    rcases Nat.lt_or_gt_of_ne h with hlt | hgt
    · have := place_lt L hlt; unfold wd at this; omega
    · have := place_lt L hgt; unfold wd at this; omega
end Go.Proofs.Ytdgdnpgjbphgaab
