/- One Take of the copying loop. -/
import Derived.Test.YtdgdnpgjbphgaaaCopy
namespace Go.Proofs.Ytdgdnpgjbphgaaa
open Go.ChangeShapes Go.WideShapes Go.ChangeAt Go.RowKit
set_option linter.unusedVariables false
set_option maxRecDepth 100000
set_option maxHeartbeats 2000000

/-- where a ref leads to in the second block -/
def refNew (L : List (Nat × Nat × Nat)) (Q : List Nat) : Option Nat → Nat
  | none => 0
  | some t => spot L Q (Q.idxOf t)
/-- what field f of the m-th copy holds, when the refs ahead of ref c of copy sc were gone through -/
def copyField (L : List (Nat × Nat × Nat)) (E : List (List Int)) (Q : List Nat) (sc c m f : Nat) : Nat :=
  if f < refsOf L (Q.getD m 0) then
    (if m < sc ∨ (m = sc ∧ f < c) then refNew L Q (edgeN E L.length (Q.getD m 0) f) else refTo L (edgeN E L.length (Q.getD m 0) f))
  else rawN (Q.getD m 0) (f - refsOf L (Q.getD m 0))
/-- the first block: who was taken tells where to -/
structure From (L : List (Nat × Nat × Nat)) (E : List (List Int)) (Q : List Nat) (ws : List Nat) (hs : List Bool) : Prop where
  marks : ∀ k, k < place L L.length → (hs.getD k false = true ↔ ∃ j, j < L.length ∧ k = place L j)
  gone : ∀ i, i < L.length → i ∈ Q → ws.getD (place L i) 0 = 9223372036854775808 + spot L Q (Q.idxOf i)
  heads : ∀ i, i < L.length → i ∉ Q → ws.getD (place L i) 0 = headOf (L.getD i (0, 0, 0))
  fields : ∀ i f, i < L.length → f < fldsOf L i → ws.getD (place L i + 1 + f) 0 = fieldOf L E i f
/-- the second block: the copies, one behind the other -/
structure Into (L : List (Nat × Nat × Nat)) (E : List (List Int)) (Q : List Nat) (sc c : Nat) (ws : List Nat) (hs : List Bool) : Prop where
  marks : ∀ k, k < spot L Q Q.length → (hs.getD k false = true ↔ ∃ m, m < Q.length ∧ k = spot L Q m)
  heads : ∀ m, m < Q.length → ws.getD (spot L Q m) 0 = headOf (L.getD (Q.getD m 0) (0, 0, 0))
  fields : ∀ m f, m < Q.length → f < fldsOf L (Q.getD m 0) → ws.getD (spot L Q m + 1 + f) 0 = copyField L E Q sc c m f
theorem getD_append_left' (Q : List Nat) (t m : Nat) (h : m < Q.length) : (Q ++ [t]).getD m 0 = Q.getD m 0 := by
  rw [List.getD_eq_getElem?_getD, List.getElem?_append_left h, ← List.getD_eq_getElem?_getD]
theorem getD_append_last (Q : List Nat) (t : Nat) : (Q ++ [t]).getD Q.length 0 = t := by simp [List.getD_eq_getElem?_getD]
theorem idxOf_left (Q : List Nat) (t i : Nat) (h : i ∈ Q) : (Q ++ [t]).idxOf i = Q.idxOf i := by rw [List.idxOf_append, if_pos h]
theorem idxOf_last (Q : List Nat) (t : Nat) (h : t ∉ Q) : (Q ++ [t]).idxOf t = Q.length := by rw [List.idxOf_append, if_neg h]; simp
theorem spot_le (L : List (Nat × Nat × Nat)) (Q : List Nat) {m k : Nat} (h : m < k) (hm : m < Q.length) : spot L Q m + (1 + fldsOf L (Q.getD m 0)) ≤ spot L Q k := by
  have := place_lt (shapesOf L Q) h
  rw [shapesOf_at L Q m hm] at this
  unfold spot fldsOf
  unfold wd at this
  omega
/-- the first block when one more was taken -/
theorem From.next {L : List (Nat × Nat × Nat)} {E : List (List Int)} {Q : List Nat} {ws : List Nat} {hs : List Bool} (h : From L E Q ws hs) (hl : place L L.length ≤ ws.length) {t : Nat} (ht : t < L.length) (hn : t ∉ Q) : From L E (Q ++ [t]) (ws.set (place L t) (9223372036854775808 + spot L Q Q.length)) hs := by
  have hpt := place_lt L ht
  have h1 : 1 ≤ wd (L.getD t (0, 0, 0)) := by unfold wd; omega
  have hne : ∀ i, i ≠ t → i < L.length → place L i ≠ place L t := fun i hi _ e => by
    rcases Nat.lt_or_gt_of_ne hi with hlt | hgt
    · have := place_lt L hlt; unfold wd at this; omega
    · have := place_lt L hgt; unfold wd at this; omega
  refine ⟨h.marks, fun i hi hm => ?_, fun i hi hm => ?_, fun i f hi hf => ?_⟩
  · rw [getD_set _ _ _ _ (by omega)]
    by_cases e : i = t
    · subst e
      rw [if_pos rfl, idxOf_last Q i hn, spot_prefix L Q i Q.length (Nat.le_refl _)]
    · have hq : i ∈ Q := by
        rcases List.mem_append.1 hm with hm | hm
        · exact hm
        · rw [List.mem_singleton] at hm; exact absurd hm e
      rw [if_neg (hne i e hi), h.gone i hi hq, idxOf_left Q t i hq, spot_prefix L Q t _ (Nat.le_of_lt (List.idxOf_lt_length_of_mem hq))]
  · have hq : i ∉ Q ∧ i ≠ t := by simp at hm; exact hm
    rw [getD_set _ _ _ _ (by omega), if_neg (hne i hq.2 hi)]
    exact h.heads i hi hq.1
  · rw [getD_set _ _ _ _ (by omega), if_neg]
    · exact h.fields i f hi hf
    · intro e
      unfold fldsOf at hf
      by_cases e2 : i = t
      · subst e2; omega
      · rcases Nat.lt_or_gt_of_ne e2 with hlt | hgt
        · have := place_lt L hlt; unfold wd at this; omega
        · have := place_lt L hgt; unfold wd at this; omega
/-- refs that were gone through lead to what was taken -/
def Shut (L : List (Nat × Nat × Nat)) (E : List (List Int)) (Q : List Nat) (sc c : Nat) : Prop := ∀ m f t, m < Q.length → f < refsOf L (Q.getD m 0) → (m < sc ∨ (m = sc ∧ f < c)) → edgeN E L.length (Q.getD m 0) f = some t → t ∈ Q
/-- the second block when one more was taken -/
theorem Into.next {L : List (Nat × Nat × Nat)} {E : List (List Int)} {Q : List Nat} {sc c : Nat} {ws wsa : List Nat} {hs hsa : List Bool} (h : Into L E Q sc c ws hs) (ha : From L E Q wsa hsa) (hsh : Shut L E Q sc c) (hsc : sc < Q.length ∨ c = 0) (hsc2 : sc ≤ Q.length) {t : Nat} (ht : t < L.length) (hn : t ∉ Q) (hl : spot L Q Q.length + (1 + fldsOf L t) ≤ ws.length) (hhl : hs.length = ws.length) (hal : place L L.length ≤ wsa.length) :
    Into L E (Q ++ [t]) sc c (patch ws (spot L Q Q.length) (runL wsa (place L t) (1 + fldsOf L t))) (mark hs (spot L Q Q.length) (1 + fldsOf L t)) := by
  have hnx := spot_next L Q t
  have hw : wd (L.getD t (0, 0, 0)) = 1 + fldsOf L t := by unfold wd fldsOf; omega
  rw [hw] at hnx
  have hrl := runL_length wsa (place L t) (1 + fldsOf L t)
  have hlen : (Q ++ [t]).length = Q.length + 1 := by simp
  have old : ∀ k, k < spot L Q Q.length → (patch ws (spot L Q Q.length) (runL wsa (place L t) (1 + fldsOf L t))).getD k 0 = ws.getD k 0 := fun k hk => by
    rw [patch_at _ _ _ _ (by omega), if_neg (by omega)]
  have new : ∀ k, k < 1 + fldsOf L t → (patch ws (spot L Q Q.length) (runL wsa (place L t) (1 + fldsOf L t))).getD (spot L Q Q.length + k) 0 = wsa.getD (place L t + k) 0 := fun k hk => by
    rw [patch_at _ _ _ _ (by omega), if_pos (by omega), Nat.add_sub_cancel_left, runL_at _ _ _ _ hk]
  have hpt := place_lt L ht
  refine ⟨fun k hk => ?_, fun m hm => ?_, fun m f hm hf => ?_⟩
  · rw [hlen, hnx] at hk
    rw [mark_at _ _ _ _ (by omega), hlen]
    by_cases e : k = spot L Q Q.length
    · rw [if_pos e]
      exact ⟨fun _ => ⟨Q.length, by omega, by rw [spot_prefix L Q t _ (Nat.le_refl _)]; exact e⟩, fun _ => rfl⟩
    · rw [if_neg e]
      by_cases hin : spot L Q Q.length ≤ k ∧ k < spot L Q Q.length + (1 + fldsOf L t)
      · rw [if_pos hin]
        refine ⟨(fun h => by cases h), ?_⟩
        rintro ⟨m, hm, rfl⟩
        rw [spot_prefix L Q t m (by omega)] at e hin
        by_cases e2 : m = Q.length
        · subst e2; exact absurd rfl e
        · have := spot_le L Q (show m < Q.length by omega) (by omega); omega
      · rw [if_neg hin, h.marks k (by omega)]
        constructor
        · rintro ⟨m, hm, rfl⟩
          exact ⟨m, by omega, (spot_prefix L Q t m (by omega)).symm⟩
        · rintro ⟨m, hm, rfl⟩
          rw [spot_prefix L Q t m (by omega)] at e ⊢
          by_cases e2 : m = Q.length
          · subst e2; exact absurd rfl e
          · exact ⟨m, by omega, rfl⟩
  · rw [hlen] at hm
    rw [spot_prefix L Q t m (by omega)]
    by_cases e : m = Q.length
    · subst e
      rw [getD_append_last]
      have := new 0 (by omega)
      rw [Nat.add_zero, Nat.add_zero] at this
      rw [this]
      exact ha.heads t ht hn
    · have hs1 := spot_le L Q (show m < Q.length by omega) (by omega)
      rw [getD_append_left' Q t m (by omega), old _ (by omega)]
      exact h.heads m (by omega)
  · rw [hlen] at hm
    rw [spot_prefix L Q t m (by omega)]
    by_cases e : m = Q.length
    · subst e
      rw [getD_append_last] at hf
      have := new (1 + f) (by omega)
      rw [← Nat.add_assoc, ← Nat.add_assoc] at this
      rw [this, ha.fields t f ht hf]
      unfold copyField fieldOf
      rw [getD_append_last]
      by_cases hr : f < refsOf L t
      · rw [if_pos hr, if_pos hr, if_neg (by omega)]
      · rw [if_neg hr, if_neg hr]
    · rw [getD_append_left' Q t m (by omega)] at hf
      have hs1 := spot_le L Q (show m < Q.length by omega) (by omega)
      rw [old _ (by omega), h.fields m f (by omega) hf]
      unfold copyField
      rw [getD_append_left' Q t m (by omega)]
      by_cases hr : f < refsOf L (Q.getD m 0)
      · rw [if_pos hr, if_pos hr]
        by_cases hd : m < sc ∨ (m = sc ∧ f < c)
        · rw [if_pos hd, if_pos hd]
          cases he : edgeN E L.length (Q.getD m 0) f with
          | none => rfl
          | some u =>
            have hu := hsh m f u (by omega) hr hd he
            show spot L Q (Q.idxOf u) = spot L (Q ++ [t]) ((Q ++ [t]).idxOf u)
            rw [idxOf_left Q t u hu, spot_prefix L Q t _ (Nat.le_of_lt (List.idxOf_lt_length_of_mem hu))]
        · rw [if_neg hd, if_neg hd]
      · rw [if_neg hr, if_neg hr]
end Go.Proofs.Ytdgdnpgjbphgaaa
