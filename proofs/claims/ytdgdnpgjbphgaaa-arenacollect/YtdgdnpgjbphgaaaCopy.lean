/- The copying loop: what lies in the second block. -/
import Derived.Test.YtdgdnpgjbphgaaaLive
import Derived.Test.YtdgdnpgjbphgaaaMove
namespace Go.Proofs.Ytdgdnpgjbphgaaa
open Go.ChangeShapes Go.WideShapes Go.ChangeAt Go.RowKit
set_option linter.unusedVariables false
set_option maxRecDepth 100000
set_option maxHeartbeats 2000000

/-- the shapes of the objects that were taken, in their order -/
def shapesOf (L : List (Nat × Nat × Nat)) (Q : List Nat) : List (Nat × Nat × Nat) := Q.map fun i => L.getD i (0, 0, 0)
theorem shapesOf_length (L : List (Nat × Nat × Nat)) (Q : List Nat) : (shapesOf L Q).length = Q.length := by simp [shapesOf]
theorem shapesOf_at (L : List (Nat × Nat × Nat)) (Q : List Nat) (m : Nat) (h : m < Q.length) : (shapesOf L Q).getD m (0, 0, 0) = L.getD (Q.getD m 0) (0, 0, 0) := by
  have e : Q.getD m 0 = Q[m] := by rw [List.getD_eq_getElem?_getD, List.getElem?_eq_getElem h]; rfl
  unfold shapesOf
  rw [e, List.getD_eq_getElem?_getD, List.getElem?_map, List.getElem?_eq_getElem h]
  rfl
theorem place_prefix (A B : List (Nat × Nat × Nat)) : ∀ m, m ≤ A.length → place (A ++ B) m = place A m := by
  intro m
  induction m with
  | zero => intro _; rfl
  | succ m ih =>
    intro h
    show place (A ++ B) m + wd ((A ++ B).getD m (0, 0, 0)) = place A m + wd (A.getD m (0, 0, 0))
    rw [ih (by omega)]
    congr 2
    rw [List.getD_eq_getElem?_getD, List.getElem?_append_left (by omega), ← List.getD_eq_getElem?_getD]
/-- where the m-th taken object lies in the second block -/
def spot (L : List (Nat × Nat × Nat)) (Q : List Nat) (m : Nat) : Nat := place (shapesOf L Q) m
theorem spot_prefix (L : List (Nat × Nat × Nat)) (Q : List Nat) (t m : Nat) (h : m ≤ Q.length) : spot L (Q ++ [t]) m = spot L Q m := by
  unfold spot shapesOf
  rw [List.map_append]
  exact place_prefix _ _ m (by simp; omega)
theorem spot_next (L : List (Nat × Nat × Nat)) (Q : List Nat) (t : Nat) : spot L (Q ++ [t]) (Q.length + 1) = spot L Q Q.length + wd (L.getD t (0, 0, 0)) := by
  have h1 : spot L (Q ++ [t]) (Q.length + 1) = spot L (Q ++ [t]) Q.length + wd ((shapesOf L (Q ++ [t])).getD Q.length (0, 0, 0)) := rfl
  rw [h1, spot_prefix L Q t Q.length (Nat.le_refl _), shapesOf_at L (Q ++ [t]) Q.length (by simp)]
  congr 3
  simp [List.getD_eq_getElem?_getD]
/-- which objects were taken -/
def taken' (n : Nat) (Q : List Nat) : List Bool := (List.range n).map fun j => decide (j ∈ Q)
theorem taken'_length (n : Nat) (Q : List Nat) : (taken' n Q).length = n := by simp [taken']
theorem taken'_at (n : Nat) (Q : List Nat) (j : Nat) (h : j < n) : (taken' n Q).getD j false = decide (j ∈ Q) := by
  unfold taken'
  rw [List.getD_eq_getElem?_getD, List.getElem?_map, List.getElem?_range h]; rfl
theorem taken'_next (n : Nat) (Q : List Nat) (t : Nat) (ht : t < n) : taken' n (Q ++ [t]) = (taken' n Q).set t true := by
  apply List.ext_getElem?
  intro j
  by_cases hj : j < n
  · rw [List.getElem?_set, taken'_length]
    unfold taken'
    rw [List.getElem?_map, List.getElem?_map, List.getElem?_range hj]
    by_cases e : t = j
    · subst e
      rw [if_pos rfl, if_pos ht]
      simp
    · rw [if_neg e]
      simp
      intro h
      exact absurd h.symm e
  · rw [List.getElem?_eq_none (by rw [taken'_length]; omega), List.getElem?_eq_none (by rw [List.length_set, taken'_length]; omega)]
/-- the second block's words in use -/
theorem spot_sum (L : List (Nat × Nat × Nat)) (Q : List Nat) (hq : ∀ i ∈ Q, i < L.length) (hn : Q.Nodup) : spot L Q Q.length = 1 + wsum L (taken' L.length Q) L.length := by
  have key : ∀ k, k ≤ Q.length → spot L (Q.take k) k = 1 + wsum L (taken' L.length (Q.take k)) L.length := by
    intro k
    induction k with
    | zero =>
      intro _
      have h0 : ∀ m, wsum L (taken' L.length []) m = 0 := fun m => by
        induction m with
        | zero => rfl
        | succ m ih =>
          show wsum L (taken' L.length []) m + _ = 0
          rw [ih]
          have : (taken' L.length []).getD m false = false := by
            by_cases hm : m < L.length
            · rw [taken'_at _ _ _ hm]; simp
            · rw [List.getD_eq_getElem?_getD, List.getElem?_eq_none (by rw [taken'_length]; omega)]; rfl
          rw [this, if_neg (by decide)]
      rw [List.take_zero, h0]
      rfl
    | succ k ih =>
      intro hk
      have h1 := ih (by omega)
      have hkl : k < Q.length := by omega
      have e : Q.take (k + 1) = Q.take k ++ [Q[k]] := List.take_succ_eq_append_getElem hkl
      have htl : (Q.take k).length = k := by rw [List.length_take]; omega
      have hnot : Q[k] ∉ Q.take k := fun hm => by
        have h2 : (Q.take (k + 1)).Nodup := hn.sublist (List.take_sublist _ _)
        rw [e, List.nodup_append] at h2
        exact h2.2.2 _ hm _ (by simp) rfl
      have hlt := hq Q[k] (List.getElem_mem hkl)
      rw [e, taken'_next L.length _ _ hlt, wsum_add L _ Q[k] (by rw [taken'_length]; exact hlt) (by rw [taken'_at _ _ _ hlt]; simp [hnot]) L.length hlt]
      have h3 := spot_next L (Q.take k) Q[k]
      rw [htl] at h3
      rw [h3, h1]
      omega
  have := key Q.length (Nat.le_refl _)
  rwa [List.take_length] at this
end Go.Proofs.Ytdgdnpgjbphgaaa
