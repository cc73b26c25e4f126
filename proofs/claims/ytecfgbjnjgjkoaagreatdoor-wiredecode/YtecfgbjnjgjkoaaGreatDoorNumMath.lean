/- Decimal spellings as lists of bytes. -/
namespace Larder

def isDigit (c : Nat) : Prop := 48 ≤ c ∧ c ≤ 57

/-- all digits -/
def Digs (l : List Nat) : Prop := ∀ i, i < l.length → isDigit (l.getD i 0)

/-- a number without a sign in its one form, of whatever size -/
def Plain (l : List Nat) : Prop := 0 < l.length ∧ ¬ (l.getD 0 0 = 48 ∧ 1 < l.length) ∧ Digs l

theorem not_plain_nil : ¬ Plain [] := fun h => absurd h.1 (Nat.lt_irrefl 0)
/-- whether it is one -/
def plainB (l : List Nat) : Bool := decide (0 < l.length ∧ ¬ (l.getD 0 0 = 48 ∧ 1 < l.length) ∧ ∀ i, i < l.length → 48 ≤ l.getD i 0 ∧ l.getD i 0 ≤ 57)
theorem plainB_iff (l : List Nat) : plainB l = true ↔ Plain l := by
  unfold plainB
  rw [decide_eq_true_iff]
  exact Iff.rfl
theorem plainB_yes {l : List Nat} (h : Plain l) : plainB l = true := (plainB_iff l).2 h
theorem plainB_no {l : List Nat} (h : ¬ Plain l) : plainB l = false := by
  cases e : plainB l with
  | false => rfl
  | true => exact absurd ((plainB_iff l).1 e) h

/-- the number of the first k digits -/
def numK (l : List Nat) : Nat → Nat
  | 0 => 0
  | k + 1 => 10 * numK l k + (l.getD k 0 - 48)
def numOf (l : List Nat) : Nat := numK l l.length

theorem numK_zero (l : List Nat) : numK l 0 = 0 := rfl
theorem numK_succ (l : List Nat) (k : Nat) : numK l (k + 1) = 10 * numK l k + (l.getD k 0 - 48) := rfl
theorem numK_mono (l : List Nat) (k j : Nat) : numK l k ≤ numK l (k + j) := by
  induction j with
  | zero => exact Nat.le_refl _
  | succ j ih => rw [← Nat.add_assoc, numK_succ]; omega
theorem numK_le (l : List Nat) (k : Nat) (h : k ≤ l.length) : numK l k ≤ numOf l := by
  obtain ⟨j, hj⟩ := Nat.exists_eq_add_of_le h
  unfold numOf; rw [hj]; exact numK_mono l k j

theorem numK_lt (l : List Nat) (hd : Digs l) (k : Nat) (hk : k ≤ l.length) : numK l k < 10 ^ k := by
  induction k with
  | zero => exact Nat.one_pos
  | succ k ih =>
    have h1 := ih (by omega)
    have h2 := hd k (by omega)
    unfold isDigit at h2
    rw [numK_succ, Nat.pow_succ]; omega

/-- a plain spelling of more than one digit is at least a power of ten -/
theorem numK_ge (l : List Nat) (hd : Digs l) (h0 : l.getD 0 0 ≠ 48) (k : Nat) (hk : k < l.length) : 10 ^ k ≤ numK l (k + 1) := by
  induction k with
  | zero =>
    have h2 := hd 0 (by omega)
    unfold isDigit at h2
    rw [numK_succ]; omega
  | succ k ih =>
    have h1 := ih (by omega)
    rw [numK_succ, Nat.pow_succ]; omega

/-- the tail of a spelling -/
theorem getD_tail (l : List Nat) (i : Nat) : (l.drop 1).getD i 0 = l.getD (i + 1) 0 := by
  rw [List.getD_eq_getElem?_getD, List.getD_eq_getElem?_getD, List.getElem?_drop, Nat.add_comm]

/-- numbers of one length stand as their texts stand -/
theorem numK_lex (l m : List Nat) (hd : Digs l) (hm : Digs m) (hlen : l.length = m.length) (k : Nat) (hk : k < l.length)
    (hpre : ∀ i, i < k → l.getD i 0 = m.getD i 0) (hlt : l.getD k 0 < m.getD k 0) : numOf l < numOf m := by
  have same : ∀ j, j ≤ k → numK l j = numK m j := by
    intro j
    induction j with
    | zero => intro _; rfl
    | succ j ih => intro h; rw [numK_succ, numK_succ, ih (by omega), hpre j (by omega)]
  have behind : ∀ j, k + 1 + j ≤ l.length → numK l (k + 1 + j) < numK m (k + 1 + j) := by
    intro j
    induction j with
    | zero =>
      intro _
      have h1 := hd k hk
      unfold isDigit at h1
      rw [Nat.add_zero, numK_succ, numK_succ, same k (Nat.le_refl _)]; omega
    | succ j ih =>
      intro h
      have h1 := ih (by omega)
      have h2 := hd (k + 1 + j) (by omega)
      have h3 := hm (k + 1 + j) (by omega)
      unfold isDigit at h2 h3
      rw [← Nat.add_assoc, numK_succ, numK_succ]; omega
  have := behind (l.length - (k + 1)) (by omega)
  unfold numOf
  rw [← hlen]
  have e : k + 1 + (l.length - (k + 1)) = l.length := by omega
  rwa [e] at this

/-- what the document asks of Uint: the number and the error -/
def uintRes (l : List Nat) : Nat × Nat := if plainB l = true ∧ numOf l < 18446744073709551616 then (numOf l, 0) else (0, 12)
theorem uintRes_def (l : List Nat) [Decidable (Plain l ∧ numOf l < 18446744073709551616)] : uintRes l = if Plain l ∧ numOf l < 18446744073709551616 then (numOf l, 0) else (0, 12) := by
  unfold uintRes
  by_cases h : Plain l ∧ numOf l < 18446744073709551616
  · rw [if_pos h, if_pos ⟨plainB_yes h.1, h.2⟩]
  · rw [if_neg h, if_neg (fun e => h ⟨(plainB_iff l).1 e.1, e.2⟩)]
/-- what the document asks of Int -/
def intRes (l : List Nat) : Int × Nat :=
  if l.getD 0 0 = 45 then
    (if plainB (l.drop 1) = true ∧ (l.drop 1).getD 0 0 ≠ 48 then (if numOf (l.drop 1) ≤ 9223372036854775808 then (-(numOf (l.drop 1) : Int), 0) else (0, 13)) else (0, 12))
  else
    (if plainB l = true then (if numOf l < 9223372036854775808 then ((numOf l : Int), 0) else (0, 13)) else (0, 12))
theorem intRes_def (l : List Nat) [Decidable (Plain (l.drop 1) ∧ (l.drop 1).getD 0 0 ≠ 48)] [Decidable (Plain l)] : intRes l =
  if l.getD 0 0 = 45 then
    (if Plain (l.drop 1) ∧ (l.drop 1).getD 0 0 ≠ 48 then (if numOf (l.drop 1) ≤ 9223372036854775808 then (-(numOf (l.drop 1) : Int), 0) else (0, 13)) else (0, 12))
  else
    (if Plain l then (if numOf l < 9223372036854775808 then ((numOf l : Int), 0) else (0, 13)) else (0, 12)) := by
  unfold intRes
  by_cases h0 : l.getD 0 0 = 45
  · rw [if_pos h0, if_pos h0]
    by_cases h : Plain (l.drop 1) ∧ (l.drop 1).getD 0 0 ≠ 48
    · rw [if_pos h, if_pos ⟨plainB_yes h.1, h.2⟩]
    · rw [if_neg h, if_neg (fun e => h ⟨(plainB_iff _).1 e.1, e.2⟩)]
  · rw [if_neg h0, if_neg h0]
    by_cases h : Plain l
    · rw [if_pos h, if_pos (plainB_yes h)]
    · rw [if_neg h, if_neg (fun e => h ((plainB_iff _).1 e))]
end Larder
