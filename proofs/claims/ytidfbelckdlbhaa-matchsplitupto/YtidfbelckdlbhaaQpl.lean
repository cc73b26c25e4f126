/- Quoted patterns, in plain words. -/
import Derived.Test.YtidfbelckdlbhaaPat
namespace Larder
/-- each byte behind a backslash -/
def quoteL (t : List Nat) : List Nat := t.flatMap (fun c => [92, c])
theorem quoteL_cons (c : Nat) (t : List Nat) : quoteL (c :: t) = 92 :: c :: quoteL t := rfl
theorem quoteL_len : ∀ t : List Nat, (quoteL t).length = 2 * t.length
  | [] => rfl
  | c :: t => by rw [quoteL_cons, List.length_cons, List.length_cons, quoteL_len t, List.length_cons]; omega
theorem quoteL_snoc (t : List Nat) (c : Nat) : quoteL (t ++ [c]) = quoteL t ++ [92, c] := by
  unfold quoteL
  rw [List.flatMap_append]
  rfl
/-- just that byte -/
def lit (c : Nat) : Option (Nat → Bool) := some (between c c)
theorem between_self (c d : Nat) : between c c d = true ↔ d = c := by
  unfold between
  rw [decide_eq_true_iff]
  omega

theorem pk_end (p : List Nat) (n i : Nat) (h : p.length ≤ i) : parseK p n i = [] := by
  cases n with
  | zero => rfl
  | succ n => rw [parseK, if_neg (by omega)]
theorem getD_mid (A B : List Nat) (c : Nat) : (A ++ c :: B).getD A.length 0 = c := by
  rw [List.getD_eq_getElem?_getD, List.getElem?_append_right (Nat.le_refl _), Nat.sub_self]
  rfl
theorem getD_mid2 (A B : List Nat) (b c : Nat) : (A ++ b :: c :: B).getD (A.length + 1) 0 = c := by
  rw [List.getD_eq_getElem?_getD, List.getElem?_append_right (by omega), Nat.add_sub_cancel_left]
  rfl
theorem pk_star (A B : List Nat) (n : Nat) : parseK (A ++ 42 :: B) (n + 1) A.length = none :: parseK (A ++ 42 :: B) n (A.length + 1) := by
  have h : pieceAt (A ++ 42 :: B) A.length = (none, A.length + 1) := by unfold pieceAt; rw [getD_mid, if_pos rfl]
  rw [parseK, if_pos (by simp), h]
theorem pk_any (A B : List Nat) (n : Nat) : parseK (A ++ 63 :: B) (n + 1) A.length = some (fun _ => true) :: parseK (A ++ 63 :: B) n (A.length + 1) := by
  have h : pieceAt (A ++ 63 :: B) A.length = (some (fun _ => true), A.length + 1) := by unfold pieceAt; rw [getD_mid, if_neg (by decide), if_neg (by decide), if_pos rfl]
  rw [parseK, if_pos (by simp), h]
theorem pk_lit (A B : List Nat) (c n : Nat) : parseK (A ++ 92 :: c :: B) (n + 1) A.length = lit c :: parseK (A ++ 92 :: c :: B) n (A.length + 2) := by
  have hb : byteAt (A ++ 92 :: c :: B) A.length = (c, A.length + 2) := by
    unfold byteAt
    rw [getD_mid, getD_mid2, if_pos ⟨rfl, by simp⟩]
  have h : pieceAt (A ++ 92 :: c :: B) A.length = (lit c, A.length + 2) := by
    unfold pieceAt
    rw [getD_mid, if_neg (by decide), if_neg (by decide), if_neg (by decide), hb]
    rfl
  rw [parseK, if_pos (by simp), h]
theorem pk_quote : ∀ (t A B : List Nat) (n : Nat), parseK (A ++ (quoteL t ++ B)) (n + t.length) A.length = t.map lit ++ parseK (A ++ (quoteL t ++ B)) n (A.length + 2 * t.length)
  | [], A, B, n => rfl
  | c :: t, A, B, n => by
    rw [quoteL_cons, List.cons_append, List.cons_append, List.length_cons, ← Nat.add_assoc, pk_lit, List.map_cons, List.cons_append]
    congr 1
    have e : A ++ 92 :: c :: (quoteL t ++ B) = (A ++ [92, c]) ++ (quoteL t ++ B) := by simp
    have h := pk_quote t (A ++ [92, c]) B n
    have hl : (A ++ [92, c]).length = A.length + 2 := by simp
    rw [← e, hl] at h
    rw [h, show A.length + 2 + 2 * t.length = A.length + 2 * (t.length + 1) by omega]

theorem parse_quote (t : List Nat) : parse (quoteL t) = t.map lit := by
  unfold parse
  have h := pk_quote t [] [] t.length
  rw [List.nil_append, List.append_nil, List.length_nil, Nat.zero_add] at h
  rw [quoteL_len, show 2 * t.length = t.length + t.length by omega, h, pk_end _ _ _ (by rw [quoteL_len]; omega), List.append_nil]
theorem parse_behind (t : List Nat) : parse (quoteL t ++ [42]) = t.map lit ++ [none] := by
  unfold parse
  have h := pk_quote t [] [42] (t.length + 1)
  rw [List.nil_append, List.length_nil, Nat.zero_add] at h
  have hl : (quoteL t ++ [42]).length = t.length + 1 + t.length := by rw [List.length_append, quoteL_len]; simp; omega
  rw [hl, h]
  congr 1
  have h2 := pk_star (quoteL t) [] t.length
  rw [quoteL_len] at h2
  rw [h2, pk_end _ _ _ (by rw [hl]; omega)]
theorem parse_ahead (t : List Nat) : parse (42 :: quoteL t) = none :: t.map lit := by
  unfold parse
  have h := pk_star [] (quoteL t) (t.length + t.length)
  rw [List.nil_append, List.length_nil] at h
  have hl : (42 :: quoteL t).length = t.length + t.length + 1 := by rw [List.length_cons, quoteL_len]; omega
  rw [hl, h]
  congr 1
  have h2 := pk_quote t [42] [] t.length
  rw [List.append_nil, List.length_singleton] at h2
  rw [show (0 : Nat) + 1 = 1 from rfl]
  have e : [42] ++ quoteL t = 42 :: quoteL t := rfl
  rw [e] at h2
  rw [h2, pk_end _ _ _ (by rw [hl]; omega), List.append_nil]
theorem parse_both (t : List Nat) : parse (42 :: (quoteL t ++ [42])) = none :: (t.map lit ++ [none]) := by
  unfold parse
  have h := pk_star [] (quoteL t ++ [42]) (t.length + 1 + t.length)
  rw [List.nil_append, List.length_nil] at h
  have hl : (42 :: (quoteL t ++ [42])).length = t.length + 1 + t.length + 1 := by rw [List.length_cons, List.length_append, quoteL_len]; simp; omega
  rw [hl, h]
  congr 1
  have h2 := pk_quote t [42] [42] (t.length + 1)
  rw [List.length_singleton] at h2
  rw [show (0 : Nat) + 1 = 1 from rfl]
  have e : [42] ++ (quoteL t ++ [42]) = 42 :: (quoteL t ++ [42]) := rfl
  rw [e] at h2
  rw [h2]
  congr 1
  have h3 := pk_star (42 :: quoteL t) [] t.length
  have hl3 : (42 :: quoteL t).length = 1 + 2 * t.length := by rw [List.length_cons, quoteL_len]; omega
  rw [hl3] at h3
  have e3 : 42 :: quoteL t ++ [42] = 42 :: (quoteL t ++ [42]) := rfl
  rw [e3] at h3
  rw [h3, pk_end _ _ _ (by rw [hl]; omega)]
theorem parse_hole (a b : List Nat) : parse (quoteL a ++ [63] ++ quoteL b) = a.map lit ++ some (fun _ => true) :: b.map lit := by
  unfold parse
  have hl : (quoteL a ++ [63] ++ quoteL b).length = a.length + b.length + b.length + 1 + a.length := by simp only [List.length_append, quoteL_len, List.length_singleton]; omega
  have h := pk_quote a [] ([63] ++ quoteL b) (a.length + b.length + b.length + 1)
  rw [List.nil_append, List.length_nil, Nat.zero_add, ← List.append_assoc] at h
  rw [hl, h]
  congr 1
  have h2 := pk_any (quoteL a) (quoteL b) (a.length + b.length + b.length)
  rw [quoteL_len] at h2
  have e2 : quoteL a ++ 63 :: quoteL b = quoteL a ++ [63] ++ quoteL b := by simp
  rw [e2] at h2
  rw [h2]
  congr 1
  have h3 := pk_quote b (quoteL a ++ [63]) [] (a.length + b.length)
  have hl3 : (quoteL a ++ [63]).length = 2 * a.length + 1 := by rw [List.length_append, quoteL_len]; rfl
  rw [List.append_nil, hl3] at h3
  rw [h3, pk_end _ _ _ (by rw [hl]; omega), List.append_nil]

theorem meets_lits : ∀ (t u : List Nat), Meets (t.map lit) u ↔ u = t
  | [], u => Iff.rfl
  | c :: t, u => by
    show (∃ d v, u = d :: v ∧ between c c d = true ∧ Meets (t.map lit) v) ↔ _
    constructor
    · rintro ⟨d, v, rfl, h1, h2⟩
      rw [(between_self c d).1 h1, (meets_lits t v).1 h2]
    · rintro rfl
      exact ⟨c, t, rfl, (between_self c c).2 rfl, (meets_lits t t).2 rfl⟩
/-- u holds t from the place i on -/
def holdsB (u t : List Nat) (i : Nat) : Bool := decide (i + t.length ≤ u.length ∧ (u.drop i).take t.length = t)
theorem holdsB_iff (u t : List Nat) (i : Nat) : holdsB u t i = true ↔ ∃ x y, u = x ++ (t ++ y) ∧ x.length = i := by
  unfold holdsB
  rw [decide_eq_true_iff]
  constructor
  · rintro ⟨h1, h2⟩
    refine ⟨u.take i, (u.drop i).drop t.length, ?_, by rw [List.length_take]; omega⟩
    conv => lhs; rw [← List.take_append_drop i u, ← List.take_append_drop t.length (u.drop i), h2]
  · rintro ⟨x, y, rfl, rfl⟩
    refine ⟨by simp only [List.length_append]; omega, ?_⟩
    rw [List.drop_left, List.take_left]
theorem meets_rest (v : List Nat) : Meets [none] v := ⟨v, [], by simp, rfl⟩
theorem meets_behind (t u : List Nat) : Meets (t.map lit ++ [none]) u ↔ holdsB u t 0 = true := by
  rw [meets_append, holdsB_iff]
  constructor
  · rintro ⟨x, y, rfl, h1, _⟩
    exact ⟨[], y, by rw [(meets_lits t x).1 h1]; rfl, rfl⟩
  · rintro ⟨x, y, rfl, h⟩
    have : x = [] := List.eq_nil_of_length_eq_zero h
    subst this
    exact ⟨t, y, rfl, (meets_lits t t).2 rfl, meets_rest y⟩
theorem meets_ahead (t u : List Nat) : Meets (none :: t.map lit) u ↔ t.length ≤ u.length ∧ holdsB u t (u.length - t.length) = true := by
  show (∃ x v, u = x ++ v ∧ Meets (t.map lit) v) ↔ _
  rw [holdsB_iff]
  constructor
  · rintro ⟨x, v, rfl, h⟩
    rw [meets_lits] at h
    subst h
    refine ⟨by simp, x, [], by simp, by simp⟩
  · rintro ⟨h, x, y, rfl, hx⟩
    have : y = [] := by
      refine List.eq_nil_of_length_eq_zero ?_
      simp only [List.length_append] at hx
      omega
    subst this
    exact ⟨x, t, by simp, (meets_lits t t).2 rfl⟩
theorem meets_both (t u : List Nat) : Meets (none :: (t.map lit ++ [none])) u ↔ ∃ i, i ≤ u.length ∧ holdsB u t i = true := by
  show (∃ x v, u = x ++ v ∧ Meets (t.map lit ++ [none]) v) ↔ _
  constructor
  · rintro ⟨x, v, rfl, h⟩
    obtain ⟨x2, y, rfl, h2⟩ := (holdsB_iff v t 0).1 ((meets_behind t v).1 h)
    have : x2 = [] := List.eq_nil_of_length_eq_zero h2
    subst this
    exact ⟨x.length, by simp, (holdsB_iff _ _ _).2 ⟨x, y, rfl, rfl⟩⟩
  · rintro ⟨i, _, h⟩
    obtain ⟨x, y, rfl, _⟩ := (holdsB_iff u t i).1 h
    exact ⟨x, t ++ y, rfl, (meets_behind t _).2 ((holdsB_iff _ _ _).2 ⟨[], y, rfl, rfl⟩)⟩
theorem meets_hole (t u : List Nat) (k : Nat) (hk : k < t.length) : Meets ((t.take k).map lit ++ some (fun _ => true) :: (t.drop (k + 1)).map lit) u ↔ u.length = t.length ∧ u.take k = t.take k ∧ u.drop (k + 1) = t.drop (k + 1) := by
  rw [meets_append]
  constructor
  · rintro ⟨x, v, rfl, h1, c, y, rfl, _, h2⟩
    rw [meets_lits] at h1 h2
    have hx : x.length = k := by rw [h1, List.length_take]; omega
    refine ⟨?_, ?_, ?_⟩
    · rw [h1, h2]
      simp only [List.length_append, List.length_cons, List.length_take, List.length_drop]
      omega
    · rw [← h1, ← hx, List.take_left]
    · rw [← h2, ← hx]
      simp
  · rintro ⟨h0, h1, h2⟩
    refine ⟨u.take k, u.drop k, (List.take_append_drop k u).symm, (meets_lits _ _).2 h1, ?_⟩
    rw [List.drop_eq_getElem_cons (show k < u.length by omega)]
    exact ⟨_, _, rfl, rfl, (meets_lits _ _).2 h2⟩
end Larder
