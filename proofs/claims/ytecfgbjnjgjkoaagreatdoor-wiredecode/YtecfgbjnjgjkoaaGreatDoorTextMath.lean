/- Spellings: their numbers, and back. -/
import Derived.Test.YtecfgbjnjgjkoaaGreatDoorNumMath
import Derived.Lib.ItoaNum
namespace Larder
open Go

/-- the digits of u as numbers; none for 0 -/
def pre (u : Nat) : List UInt8 := if u = 0 then [] else Lib.decDigits u

theorem pre_zero : pre 0 = [] := rfl
theorem pre_pos (u : Nat) (h : 0 < u) : pre u = Lib.decDigits u := by unfold pre; rw [if_neg (by omega)]

theorem decDigits_step (u : Nat) (h : ¬ u < 10) : Lib.decDigits u = Lib.decDigits (u / 10) ++ [UInt8.ofNat (48 + u % 10)] := by
  rw [Lib.decDigits, dif_neg h]

theorem pre_step (u : Nat) (h : 0 < u) : pre u = pre (u / 10) ++ [UInt8.ofNat (48 + u % 10)] := by
  unfold pre
  rw [if_neg (by omega)]
  by_cases h10 : u < 10
  · rw [if_pos (by omega), Lib.decDigits_one h10, Nat.mod_eq_of_lt h10]; rfl
  · rw [if_neg (by omega), decDigits_step u h10]

/-- bytes as numbers -/
def nums (l : List UInt8) : List Nat := l.map UInt8.toNat
theorem nums_append (a b : List UInt8) : nums (a ++ b) = nums a ++ nums b := by simp [nums]
theorem nums_length (a : List UInt8) : (nums a).length = a.length := by simp [nums]
theorem nums_small (a : List UInt8) (i : Nat) (h : i < (nums a).length) : (nums a).getD i 0 < 256 := by
  rw [List.getD_eq_getElem?_getD, List.getElem?_eq_getElem h]
  simp only [nums, List.getElem_map, Option.getD_some]
  exact UInt8.toNat_lt _
theorem nums_digit (d : Nat) (h : d < 10) : nums [UInt8.ofNat (48 + d)] = [48 + d] := by
  simp only [nums, List.map_cons, List.map_nil, UInt8.toNat_ofNat', List.cons.injEq, and_true]
  omega

/-- the spelling of u, as numbers -/
def spell (u : Nat) : List Nat := nums (Lib.decDigits u)
theorem spell_small (u : Nat) (h : u < 10) : spell u = [48 + u] := by
  unfold spell; rw [Lib.decDigits_one h, nums_digit u h]
theorem spell_step (u : Nat) (h : ¬ u < 10) : spell u = spell (u / 10) ++ [48 + u % 10] := by
  unfold spell; rw [decDigits_step u h, nums_append, nums_digit (u % 10) (by omega)]

theorem getD_snoc (l : List Nat) (c i : Nat) (h : i < l.length) : (l ++ [c]).getD i 0 = l.getD i 0 := by
  rw [List.getD_eq_getElem?_getD, List.getD_eq_getElem?_getD, List.getElem?_append_left h]
theorem getD_snoc_last (l : List Nat) (c : Nat) : (l ++ [c]).getD l.length 0 = c := by
  rw [List.getD_eq_getElem?_getD]; simp
theorem numK_snoc (l : List Nat) (c k : Nat) (h : k ≤ l.length) : numK (l ++ [c]) k = numK l k := by
  induction k with
  | zero => rfl
  | succ k ih => rw [numK_succ, numK_succ, ih (by omega), getD_snoc l c k (by omega)]
theorem numOf_snoc (l : List Nat) (c : Nat) : numOf (l ++ [c]) = 10 * numOf l + (c - 48) := by
  unfold numOf
  rw [List.length_append, List.length_singleton, numK_succ, numK_snoc l c _ (Nat.le_refl _), getD_snoc_last]
theorem digs_snoc (l : List Nat) (c : Nat) (hd : Digs l) (hc : isDigit c) : Digs (l ++ [c]) := by
  intro i hi
  rw [List.length_append, List.length_singleton] at hi
  by_cases h : i < l.length
  · rw [getD_snoc l c i h]; exact hd i h
  · obtain rfl : i = l.length := by omega
    rw [getD_snoc_last]; exact hc

theorem spell_ok (u : Nat) : Plain (spell u) ∧ numOf (spell u) = u ∧ ((spell u).getD 0 0 = 48 → u = 0) := by
  induction u using Nat.strongRecOn with
  | ind u ih =>
    by_cases h : u < 10
    · rw [spell_small u h]
      refine ⟨⟨by simp, by simp, ?_⟩, ?_, ?_⟩
      · intro i hi
        obtain rfl : i = 0 := by simp at hi; exact hi
        simp only [List.getD_cons_zero]; exact ⟨by omega, by omega⟩
      · unfold numOf; simp only [List.length_singleton, numK_succ, numK_zero, List.getD_cons_zero]; omega
      · intro h0; simp only [List.getD_cons_zero] at h0; omega
    · obtain ⟨⟨h1, h2, h3⟩, h4, h5⟩ := ih (u / 10) (by omega)
      rw [spell_step u h]
      have h0 : (spell (u / 10) ++ [48 + u % 10]).getD 0 0 = (spell (u / 10)).getD 0 0 := getD_snoc _ _ 0 h1
      have hne : (spell (u / 10)).getD 0 0 ≠ 48 := fun e => by have := h5 e; omega
      refine ⟨⟨by simp, ?_, digs_snoc _ _ h3 ⟨by omega, by omega⟩⟩, ?_, ?_⟩
      · rw [h0]; exact fun e => hne e.1
      · rw [numOf_snoc, h4]; omega
      · rw [h0]; exact fun e => absurd e hne

theorem spell_back : ∀ (k : Nat) (l : List Nat), l.length = k → Plain l → spell (numOf l) = l := by
  intro k
  induction k with
  | zero => intro l hl hp; have := hp.1; omega
  | succ k ih =>
    intro l hl hp
    obtain ⟨m, c, rfl⟩ : ∃ m c, l = m ++ [c] := by
      have hne : l ≠ [] := fun e => by rw [e] at hl; simp at hl
      exact ⟨_, _, (List.dropLast_concat_getLast hne).symm⟩
    rw [List.length_append, List.length_singleton] at hl
    obtain ⟨h1, h2, h3⟩ := hp
    have hc : isDigit c := by
      have := h3 m.length (by simp)
      rwa [getD_snoc_last] at this
    obtain ⟨hc1, hc2⟩ := hc
    rw [numOf_snoc]
    by_cases hm : m.length = 0
    · obtain rfl : m = [] := List.eq_nil_of_length_eq_zero hm
      have : numOf [] = 0 := rfl
      rw [this, spell_small _ (by omega), List.nil_append]
      congr 1; omega
    · have hg0 : (m ++ [c]).getD 0 0 = m.getD 0 0 := getD_snoc m c 0 (by omega)
      have hm48 : m.getD 0 0 ≠ 48 := fun e => h2 ⟨by rw [hg0]; exact e, by simp; omega⟩
      have hdm : Digs m := fun i hi => by
        have := h3 i (by simp; omega)
        rwa [getD_snoc m c i hi] at this
      have hpm : Plain m := ⟨by omega, fun e => hm48 e.1, hdm⟩
      have hge := numK_ge m hdm hm48 0 (by omega)
      have hle := numK_le m 1 (by omega)
      have hpos : 1 ≤ numOf m := by
        have : 10 ^ 0 = 1 := rfl
        have hge' : 1 ≤ numK m 1 := hge
        omega
      rw [spell_step _ (by omega)]
      have e1 : (10 * numOf m + (c - 48)) / 10 = numOf m := by omega
      have e2 : 48 + (10 * numOf m + (c - 48)) % 10 = c := by omega
      rw [e1, e2, ih m (by omega) hpm]

/-- the spelling of n with its sign -/
def spellI (n : Int) : List Nat := nums (Lib.itoa n)
theorem spellI_neg (n : Int) (h : n < 0) : spellI n = 45 :: spell n.natAbs := by
  unfold spellI Lib.itoa spell; rw [if_pos h]; rfl
theorem spellI_pos (n : Int) (h : ¬ n < 0) : spellI n = spell n.toNat := by
  unfold spellI Lib.itoa spell; rw [if_neg h]

theorem spell_head (u : Nat) : (spell u).getD 0 0 ≠ 45 := by
  have := (spell_ok u).1
  have h := this.2.2 0 this.1
  exact fun e => by rw [e] at h; have := h.1; omega

theorem uint_spell (u : Nat) (h : u < 18446744073709551616) : uintRes (spell u) = (u, 0) := by
  obtain ⟨h1, h2, -⟩ := spell_ok u
  classical
  rw [uintRes_def, h2, if_pos ⟨h1, h⟩]
theorem uint_back (l : List Nat) (h : (uintRes l).2 = 0) : spell (uintRes l).1 = l ∧ (uintRes l).1 < 18446744073709551616 := by
  classical
  rw [uintRes_def] at h ⊢
  by_cases hp : Plain l ∧ numOf l < 18446744073709551616
  · rw [if_pos hp]; exact ⟨spell_back _ l rfl hp.1, hp.2⟩
  · rw [if_neg hp] at h; exact absurd h (by decide)

theorem int_spell (n : Int) (h1 : -9223372036854775808 ≤ n) (h2 : n ≤ 9223372036854775807) : intRes (spellI n) = (n, 0) := by
  by_cases hn : n < 0
  · rw [spellI_neg n hn]
    obtain ⟨k1, k2, k3⟩ := spell_ok n.natAbs
    classical
    rw [intRes_def, if_pos (by simp), List.drop_one, List.tail_cons, if_pos ⟨k1, fun e => by have := k3 e; omega⟩, k2, if_pos (by omega)]
    congr 1; omega
  · rw [spellI_pos n hn]
    obtain ⟨k1, k2, k3⟩ := spell_ok n.toNat
    classical
    rw [intRes_def, if_neg (spell_head _), if_pos k1, k2, if_pos (by omega)]
    congr 1; omega

theorem int_back (l : List Nat) (h : (intRes l).2 = 0) : spellI (intRes l).1 = l ∧ -9223372036854775808 ≤ (intRes l).1 ∧ (intRes l).1 ≤ 9223372036854775807 ∧
    (0 ≤ (intRes l).1 → uintRes l = ((intRes l).1.toNat, 0)) := by
  classical
  rw [intRes_def] at h ⊢
  by_cases hg : l.getD 0 0 = 45
  · rw [if_pos hg] at h ⊢
    by_cases hp : Plain (l.drop 1) ∧ (l.drop 1).getD 0 0 ≠ 48
    · rw [if_pos hp] at h ⊢
      by_cases hs : numOf (l.drop 1) ≤ 9223372036854775808
      · rw [if_pos hs]
        have hge := numK_ge (l.drop 1) hp.1.2.2 hp.2 0 hp.1.1
        have hle := numK_le (l.drop 1) 1 hp.1.1
        have hpos : 1 ≤ numOf (l.drop 1) := by
          have hge' : 1 ≤ numK (l.drop 1) 1 := hge
          omega
        refine ⟨?_, by simp only; omega, by simp only; omega, fun h0 => by simp only at h0; omega⟩
        simp only
        rw [spellI_neg _ (by omega)]
        have e : (-(numOf (l.drop 1) : Int)).natAbs = numOf (l.drop 1) := by omega
        rw [e, spell_back _ _ rfl hp.1]
        cases l with
        | nil => simp at hg
        | cons c l => simp at hg; rw [hg]; rfl
      · rw [if_neg hs] at h; exact absurd h (by decide)
    · rw [if_neg hp] at h; exact absurd h (by decide)
  · rw [if_neg hg] at h ⊢
    by_cases hp : Plain l
    · rw [if_pos hp] at h ⊢
      by_cases hs : numOf l < 9223372036854775808
      · rw [if_pos hs]
        refine ⟨?_, by simp only; omega, by simp only; omega, fun _ => ?_⟩
        · simp only
          rw [spellI_pos _ (by omega), Int.toNat_natCast, spell_back _ _ rfl hp]
        · simp only
          rw [uintRes_def, if_pos ⟨hp, by omega⟩, Int.toNat_natCast]
      · rw [if_neg hs] at h; exact absurd h (by decide)
    · rw [if_neg hp] at h; exact absurd h (by decide)
end Larder
