/- PostExact, plain: the document's order of texts is the program's; a sorted list is the sorted list. -/
import Derived.Test.YtjmnddcombepaaaDg
namespace Go.Proofs.Ytjmnddcombepaaa
open Go.ChangeShapes Go.WideShapes Go.ChangeAt Go.RowKit Go.Maps
set_option linter.unusedVariables false
set_option linter.unusedSimpArgs false
set_option maxRecDepth 100000
set_option maxHeartbeats 8000000
theorem cmpL_lt : ∀ (x y : List UInt8), (cmpL (nb x) (nb y) < 0 ↔ x < y) ∧ (cmpL (nb x) (nb y) = 0 ↔ x = y)
  | [], [] => by simp [nb, cmpL]
  | [], b :: B => by simp [nb, cmpL]
  | a :: A, [] => by simp [nb, cmpL]
  | a :: A, b :: B => by
    obtain ⟨h1, h2⟩ := cmpL_lt A B
    have e : cmpL (nb (a :: A)) (nb (b :: B)) = if a.toNat < b.toNat then -1 else if b.toNat < a.toNat then 1 else cmpL (nb A) (nb B) := rfl
    rw [e, List.cons_lt_cons_iff]
    by_cases z1 : a.toNat < b.toNat
    · rw [if_pos z1]
      have z2 : a < b := UInt8.lt_iff_toNat_lt.2 z1
      have z3 : a ≠ b := fun z => by rw [z] at z1; omega
      simp [z2, z3]
    · by_cases z2 : b.toNat < a.toNat
      · rw [if_neg z1, if_pos z2]
        have z3 : ¬ a < b := fun z => z1 (UInt8.lt_iff_toNat_lt.1 z)
        have z4 : a ≠ b := fun z => by rw [z] at z2; omega
        simp [z3, z4]
      · rw [if_neg z1, if_neg z2]
        have z3 : a = b := UInt8.toNat_inj.1 (by omega)
        subst z3
        have z4 : ¬ a < a := fun z => z1 (UInt8.lt_iff_toNat_lt.1 z)
        simp [z4, h1, h2]
theorem cmpL_le (x y : List UInt8) : cmpL (nb x) (nb y) ≤ 0 ↔ x ≤ y := by
  obtain ⟨h1, h2⟩ := cmpL_lt x y
  rw [List.le_iff_lt_or_eq, ← h1, ← h2]
  omega
/-- a list that is sorted is the sorted list -/
theorem sorted_one {m l : List (List UInt8)} (hp : m.Perm l) (hs : m.Pairwise (fun x y => x ≤ y)) : m = l.mergeSort (fun x y => decide (x ≤ y)) := by
  refine List.Perm.eq_of_pairwise (le := fun (x y : List UInt8) => x ≤ y) (fun a b _ _ h1 h2 => List.le_antisymm h1 h2) hs ?_ (hp.trans (List.mergeSort_perm _ _).symm)
  have := List.pairwise_mergeSort (le := fun (x y : List UInt8) => decide (x ≤ y)) (by intro a b c h1 h2; simp at *; exact List.le_trans h1 h2) (by intro a b; simp; exact List.le_total a b) l
  exact this.imp (fun h => of_decide_eq_true h)
/-- the same of numbers -/
theorem cmpN_lt : ∀ (x y : List Nat), (cmpL x y < 0 ↔ x < y) ∧ (cmpL x y = 0 ↔ x = y)
  | [], [] => by simp [cmpL]
  | [], b :: B => by simp [cmpL]
  | a :: A, [] => by simp [cmpL]
  | a :: A, b :: B => by
    obtain ⟨h1, h2⟩ := cmpN_lt A B
    have e : cmpL (a :: A) (b :: B) = if a < b then -1 else if b < a then 1 else cmpL A B := rfl
    rw [e, List.cons_lt_cons_iff]
    by_cases z1 : a < b
    · rw [if_pos z1]
      have z3 : a ≠ b := by omega
      simp [z1, z3]
    · by_cases z2 : b < a
      · rw [if_neg z1, if_pos z2]
        have z4 : a ≠ b := by omega
        simp [z1, z4]
      · rw [if_neg z1, if_neg z2]
        obtain rfl : a = b := by omega
        simp [h1, h2]
theorem cmpN_le (x y : List Nat) : cmpL x y ≤ 0 ↔ x ≤ y := by
  obtain ⟨h1, h2⟩ := cmpN_lt x y
  rw [List.le_iff_lt_or_eq, ← h1, ← h2]
  omega
/-- two sorted halves, merged so far -/
structure Mg (A B M : List (List Nat)) (i j : Nat) : Prop where
  len : M.length = i + j
  ia : i ≤ A.length
  jb : j ≤ B.length
  perm : M.Perm (A.take i ++ B.take j)
  srt : M.Pairwise (fun x y => x ≤ y)
  la : ∀ x ∈ M, ∀ y ∈ A.drop i, x ≤ y
  lb : ∀ x ∈ M, ∀ y ∈ B.drop j, x ≤ y
theorem Mg.nil (A B : List (List Nat)) : Mg A B [] 0 0 := ⟨rfl, Nat.zero_le _, Nat.zero_le _, List.Perm.refl _, List.Pairwise.nil, fun x hx => (by cases hx), fun x hx => (by cases hx)⟩
theorem drop_le {A : List (List Nat)} (hs : A.Pairwise (fun x y => x ≤ y)) {i : Nat} {x : List Nat} (hx : A[i]? = some x) : ∀ y ∈ A.drop i, x ≤ y := fun y hy => by
  have hi := (List.getElem?_eq_some_iff.1 hx).1
  have e : A[i] = x := (List.getElem?_eq_some_iff.1 hx).2
  rw [List.drop_eq_getElem_cons hi, e] at hy
  rcases List.mem_cons.1 hy with rfl | hy
  · exact List.le_refl _
  · have h1 := hs.sublist (List.drop_sublist i A)
    rw [List.drop_eq_getElem_cons hi, e] at h1
    exact (List.pairwise_cons.1 h1).1 y hy
theorem Mg.left {A B M : List (List Nat)} {i j : Nat} {x : List Nat} (h : Mg A B M i j) (ha : A.Pairwise (fun x y => x ≤ y)) (hb : B.Pairwise (fun x y => x ≤ y)) (hx : A[i]? = some x) (hle : ∀ y, B[j]? = some y → x ≤ y) : Mg A B (M ++ [x]) (i + 1) j := by
  have hi := (List.getElem?_eq_some_iff.1 hx).1
  have e : A[i] = x := (List.getElem?_eq_some_iff.1 hx).2
  have hd := drop_le ha hx
  have hxm : x ∈ A.drop i := by rw [List.drop_eq_getElem_cons hi, e]; exact List.mem_cons_self ..
  have hsub : ∀ y ∈ A.drop (i + 1), y ∈ A.drop i := fun y hy => by rw [List.drop_eq_getElem_cons hi]; exact List.mem_cons_of_mem _ hy
  have hB : ∀ y ∈ B.drop j, x ≤ y := fun y hy => by
    by_cases hj : j < B.length
    · exact List.le_trans (hle _ (List.getElem?_eq_getElem hj)) (drop_le hb (List.getElem?_eq_getElem hj) y hy)
    · rw [List.drop_of_length_le (by omega)] at hy; cases hy
  refine ⟨by rw [List.length_append, h.len]; simp; omega, hi, h.jb, ?_, ?_, fun z hz y hy => ?_, fun z hz y hy => ?_⟩
  · have ht : A.take (i + 1) = A.take i ++ [x] := by rw [List.take_add_one, hx]; rfl
    rw [ht]
    refine (h.perm.append_right [x]).trans ?_
    rw [List.append_assoc, List.append_assoc]
    exact (List.perm_append_comm).append_left _
  · rw [List.pairwise_append]
    exact ⟨h.srt, List.pairwise_singleton _ _, fun z hz y hy => by rw [List.mem_singleton.1 hy]; exact h.la z hz x hxm⟩
  · rcases List.mem_append.1 hz with hz | hz
    · exact h.la z hz y (hsub y hy)
    · rw [List.mem_singleton.1 hz]; exact hd y (hsub y hy)
  · rcases List.mem_append.1 hz with hz | hz
    · exact h.lb z hz y hy
    · rw [List.mem_singleton.1 hz]; exact hB y hy
theorem Mg.right {A B M : List (List Nat)} {i j : Nat} {x : List Nat} (h : Mg A B M i j) (ha : A.Pairwise (fun x y => x ≤ y)) (hb : B.Pairwise (fun x y => x ≤ y)) (hx : B[j]? = some x) (hle : ∀ y, A[i]? = some y → x ≤ y) : Mg A B (M ++ [x]) i (j + 1) := by
  have hj := (List.getElem?_eq_some_iff.1 hx).1
  have e : B[j] = x := (List.getElem?_eq_some_iff.1 hx).2
  have hd := drop_le hb hx
  have hxm : x ∈ B.drop j := by rw [List.drop_eq_getElem_cons hj, e]; exact List.mem_cons_self ..
  have hsub : ∀ y ∈ B.drop (j + 1), y ∈ B.drop j := fun y hy => by rw [List.drop_eq_getElem_cons hj]; exact List.mem_cons_of_mem _ hy
  have hA : ∀ y ∈ A.drop i, x ≤ y := fun y hy => by
    by_cases hi : i < A.length
    · exact List.le_trans (hle _ (List.getElem?_eq_getElem hi)) (drop_le ha (List.getElem?_eq_getElem hi) y hy)
    · rw [List.drop_of_length_le (by omega)] at hy; cases hy
  refine ⟨by rw [List.length_append, h.len]; simp; omega, h.ia, hj, ?_, ?_, fun z hz y hy => ?_, fun z hz y hy => ?_⟩
  · have ht : B.take (j + 1) = B.take j ++ [x] := by rw [List.take_add_one, hx]; rfl
    rw [ht, ← List.append_assoc]
    exact h.perm.append_right [x]
  · rw [List.pairwise_append]
    exact ⟨h.srt, List.pairwise_singleton _ _, fun z hz y hy => by rw [List.mem_singleton.1 hy]; exact h.lb z hz x hxm⟩
  · rcases List.mem_append.1 hz with hz | hz
    · exact h.la z hz y hy
    · rw [List.mem_singleton.1 hz]; exact hA y hy
  · rcases List.mem_append.1 hz with hz | hz
    · exact h.lb z hz y (hsub y hy)
    · rw [List.mem_singleton.1 hz]; exact hd y (hsub y hy)
theorem Mg.done {A B M : List (List Nat)} (h : Mg A B M A.length B.length) : M.Perm (A ++ B) ∧ M.Pairwise (fun x y => x ≤ y) := by
  have := h.perm
  rw [List.take_length, List.take_length] at this
  exact ⟨this, h.srt⟩
end Go.Proofs.Ytjmnddcombepaaa
