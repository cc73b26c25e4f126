/- What the roots lead to; how many words that is. -/
import Derived.Test.YtdgdnpgjbphgaaaLaid
namespace Go.Proofs.Ytdgdnpgjbphgaaa
set_option linter.unusedVariables false

/-- object i leads to object t -/
def Leads (L : List (Nat × Nat × Nat)) (E : List (List Int)) (i t : Nat) : Prop := ∃ k, k < refsOf L i ∧ edgeN E L.length i k = some t
/-- what the roots lead to: it is in every set that has the roots and is closed -/
def Live (L : List (Nat × Nat × Nat)) (E : List (List Int)) (R : List Nat) (i : Nat) : Prop := ∀ S : Nat → Prop, (∀ j ∈ R, S j) → (∀ j t, S j → Leads L E j t → S t) → S i
theorem Live.root {L : List (Nat × Nat × Nat)} {E : List (List Int)} {R : List Nat} {i : Nat} (h : i ∈ R) : Live L E R i := fun S h1 _ => h1 i h
theorem Live.step {L : List (Nat × Nat × Nat)} {E : List (List Int)} {R : List Nat} {i t : Nat} (h : Live L E R i) (hl : Leads L E i t) : Live L E R t := fun S h1 h2 => h2 i t (h S h1 h2) hl
theorem live_lt {L : List (Nat × Nat × Nat)} {E : List (List Int)} {R : List Nat} (hr : ∀ i ∈ R, i < L.length) (i : Nat) (h : Live L E R i) : i < L.length :=
  h (fun j => j < L.length) hr (fun j t _ hl => by obtain ⟨k, _, he⟩ := hl; exact edgeN_lt he)
/-- the words of the first m objects that are in the set -/
def wsum (L : List (Nat × Nat × Nat)) (s : List Bool) : Nat → Nat
  | 0 => 0
  | m + 1 => wsum L s m + if s.getD m false = true then wd (L.getD m (0, 0, 0)) else 0
theorem wsum_out (L : List (Nat × Nat × Nat)) (s : List Bool) (i : Nat) : ∀ m, m ≤ i → wsum L (s.set i true) m = wsum L s m := by
  intro m
  induction m with
  | zero => intro _; rfl
  | succ m ih =>
    intro h
    have e : (s.set i true).getD m false = s.getD m false := by
      rw [List.getD_eq_getElem?_getD, List.getElem?_set, if_neg (by omega), ← List.getD_eq_getElem?_getD]
    show wsum L (s.set i true) m + _ = wsum L s m + _
    rw [ih (by omega), e]
theorem wsum_add (L : List (Nat × Nat × Nat)) (s : List Bool) (i : Nat) (hl : i < s.length) (hf : s.getD i false = false) : ∀ m, i < m → wsum L (s.set i true) m = wsum L s m + wd (L.getD i (0, 0, 0)) := by
  intro m
  induction m with
  | zero => intro h; omega
  | succ m ih =>
    intro h
    show wsum L (s.set i true) m + _ = wsum L s m + _ + _
    by_cases e : m = i
    · subst e
      have e1 : (s.set m true).getD m false = true := by
        rw [List.getD_eq_getElem?_getD, List.getElem?_set, if_pos rfl, if_pos hl]; rfl
      rw [wsum_out L s m m (Nat.le_refl _), e1, hf, if_pos rfl, if_neg (by decide)]
      omega
    · have e1 : (s.set i true).getD m false = s.getD m false := by
        rw [List.getD_eq_getElem?_getD, List.getElem?_set, if_neg (by omega), ← List.getD_eq_getElem?_getD]
      rw [ih (by omega), e1]
      omega
theorem wsum_le (L : List (Nat × Nat × Nat)) (s s' : List Bool) (h : ∀ j, s.getD j false = true → s'.getD j false = true) : ∀ m, wsum L s m ≤ wsum L s' m := by
  intro m
  induction m with
  | zero => exact Nat.le_refl _
  | succ m ih =>
    show wsum L s m + _ ≤ wsum L s' m + _
    by_cases e : s.getD m false = true
    · rw [if_pos e, if_pos (h m e)]; omega
    · rw [if_neg e]; omega
theorem wsum_same (L : List (Nat × Nat × Nat)) (s s' : List Bool) (m : Nat) (h : ∀ j, j < m → s.getD j false = s'.getD j false) : wsum L s m = wsum L s' m := by
  induction m with
  | zero => rfl
  | succ m ih =>
    show wsum L s m + _ = wsum L s' m + _
    rw [ih (fun j hj => h j (by omega)), h m (by omega)]
/-- an object more, that is in the greater set and not in the lesser: it fits -/
theorem wsum_fits (L : List (Nat × Nat × Nat)) (s s' : List Bool) (i m : Nat) (hi : i < m) (hl : i < s.length) (h : ∀ j, s.getD j false = true → s'.getD j false = true) (hf : s.getD i false = false) (ht : s'.getD i false = true) : wsum L s m + wd (L.getD i (0, 0, 0)) ≤ wsum L s' m := by
  rw [← wsum_add L s i hl hf m hi]
  refine wsum_le L _ _ (fun j hj => ?_) m
  by_cases e : j = i
  · subst e; exact ht
  · rw [List.getD_eq_getElem?_getD, List.getElem?_set, if_neg (fun e' => e e'.symm), ← List.getD_eq_getElem?_getD] at hj
    exact h j hj
/-- how many of the first m are not in the set -/
def outN (s : List Bool) : Nat → Nat
  | 0 => 0
  | m + 1 => outN s m + if s.getD m false = true then 0 else 1
theorem outN_out (s : List Bool) (i : Nat) : ∀ m, m ≤ i → outN (s.set i true) m = outN s m := by
  intro m
  induction m with
  | zero => intro _; rfl
  | succ m ih =>
    intro h
    have e : (s.set i true).getD m false = s.getD m false := by
      rw [List.getD_eq_getElem?_getD, List.getElem?_set, if_neg (by omega), ← List.getD_eq_getElem?_getD]
    show outN (s.set i true) m + _ = outN s m + _
    rw [ih (by omega), e]
theorem outN_sub (s : List Bool) (i : Nat) (hl : i < s.length) (hf : s.getD i false = false) : ∀ m, i < m → outN (s.set i true) m + 1 = outN s m := by
  intro m
  induction m with
  | zero => intro h; omega
  | succ m ih =>
    intro h
    show outN (s.set i true) m + _ + 1 = outN s m + _
    by_cases e : m = i
    · subst e
      have e1 : (s.set m true).getD m false = true := by
        rw [List.getD_eq_getElem?_getD, List.getElem?_set, if_pos rfl, if_pos hl]; rfl
      rw [outN_out s m m (Nat.le_refl _), e1, hf, if_pos rfl, if_neg (by decide)]
    · have e1 : (s.set i true).getD m false = s.getD m false := by
        rw [List.getD_eq_getElem?_getD, List.getElem?_set, if_neg (by omega), ← List.getD_eq_getElem?_getD]
      rw [e1, ← ih (by omega)]
      omega
end Go.Proofs.Ytdgdnpgjbphgaaa
