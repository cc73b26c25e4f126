/- A byte of a word is put in its place; words that have the same bytes. -/
import Derived.Test.YtidfllgaeiopjaaGreatNums
namespace Go.Proofs.YtidfllgaeiopjaaGreat
set_option linter.unusedVariables false

/-- byte q of x -/
def byteN (x q : Nat) : Nat := x / 2 ^ (8 * q) % 256
theorem byteN_bit (x q m : Nat) : (byteN x q).testBit m = (decide (m < 8) && x.testBit (8 * q + m)) := by
  unfold byteN
  rw [show (256 : Nat) = 2 ^ 8 from rfl, Nat.testBit_mod_two_pow, Nat.testBit_div_two_pow, Nat.add_comm]
/-- the word x with byte q made c -/
def updN (x q c : Nat) : Nat := (x &&& (18446744073709551615 - 255 * 2 ^ (8 * q))) ||| (c * 2 ^ (8 * q))
theorem pow_lt (q : Nat) (hq : q < 8) : 255 * 2 ^ (8 * q) < 2 ^ 64 := by
  have h2 : 2 ^ (8 * q) ≤ 2 ^ 56 := Nat.pow_le_pow_right (by decide) (by omega)
  omega
theorem updN_bit (x q c i : Nat) (hq : q < 8) (hx : x < 2 ^ 64) (hc : c < 256) : (updN x q c).testBit i = if 8 * q ≤ i ∧ i < 8 * q + 8 then c.testBit (i - 8 * q) else x.testBit i := by
  unfold updN
  have hp := pow_lt q hq
  rw [Nat.testBit_or, Nat.testBit_and, show 18446744073709551615 - 255 * 2 ^ (8 * q) = 2 ^ 64 - (255 * 2 ^ (8 * q) + 1) by omega, Nat.testBit_two_pow_sub_succ hp, Nat.testBit_mul_two_pow, Nat.testBit_mul_two_pow, show (255 : Nat) = 2 ^ 8 - 1 from rfl, Nat.testBit_two_pow_sub_one]
  by_cases h1 : 8 * q ≤ i
  · by_cases h2 : i < 8 * q + 8
    · rw [if_pos ⟨h1, h2⟩]
      have e1 : decide (8 * q ≤ i) = true := decide_eq_true h1
      have e2 : decide (i - 8 * q < 8) = true := decide_eq_true (by omega)
      simp [e1, e2]
    · rw [if_neg (fun h => h2 h.2)]
      have e2 : decide (i - 8 * q < 8) = false := decide_eq_false (by omega)
      have e3 : c.testBit (i - 8 * q) = false := Nat.testBit_lt_two_pow (Nat.lt_of_lt_of_le hc (by
        have : 2 ^ 8 ≤ 2 ^ (i - 8 * q) := Nat.pow_le_pow_right (by decide) (by omega)
        exact this))
      simp only [e2, e3, Bool.and_false, Bool.not_false, Bool.and_true, Bool.or_false]
      by_cases h3 : i < 64
      · simp [h3]
      · have : x.testBit i = false := Nat.testBit_lt_two_pow (Nat.lt_of_lt_of_le hx (Nat.pow_le_pow_right (by decide) (by omega)))
        simp [this]
  · rw [if_neg (fun h => h1 h.1)]
    have e1 : decide (8 * q ≤ i) = false := decide_eq_false h1
    have h3 : i < 64 := by omega
    simp [e1, h3]
theorem updN_lt (x q c : Nat) (hq : q < 8) (hx : x < 2 ^ 64) (hc : c < 256) : updN x q c < 2 ^ 64 := by
  refine Nat.lt_pow_two_of_testBit _ fun i hi => ?_
  rw [updN_bit x q c i hq hx hc, if_neg (by omega)]
  exact Nat.testBit_lt_two_pow (Nat.lt_of_lt_of_le hx (Nat.pow_le_pow_right (by decide) hi))
theorem updN_byte (x q c p : Nat) (hq : q < 8) (hx : x < 2 ^ 64) (hc : c < 256) : byteN (updN x q c) p = if p = q then c else byteN x p := by
  apply Nat.eq_of_testBit_eq
  intro m
  rw [byteN_bit, updN_bit x q c _ hq hx hc]
  by_cases hm : m < 8
  · by_cases e : p = q
    · subst e
      rw [if_pos (by omega), if_pos rfl, Nat.add_sub_cancel_left]
      simp [hm]
    · rw [if_neg (by omega), if_neg e, byteN_bit]
  · have e1 : decide (m < 8) = false := decide_eq_false hm
    rw [e1, Bool.false_and]
    by_cases e : p = q
    · rw [if_pos e]
      exact (Nat.testBit_lt_two_pow (Nat.lt_of_lt_of_le hc (by
        have : 2 ^ 8 ≤ 2 ^ m := Nat.pow_le_pow_right (by decide) (by omega)
        exact this))).symm
    · rw [if_neg e, byteN_bit, e1, Bool.false_and]
theorem word_ext (x y : Nat) (hx : x < 2 ^ 64) (hy : y < 2 ^ 64) (h : ∀ q, q < 8 → byteN x q = byteN y q) : x = y := by
  apply Nat.eq_of_testBit_eq
  intro i
  by_cases hi : i < 64
  · have e := congrArg (fun z => z.testBit (i % 8)) (h (i / 8) (by omega))
    simp only [byteN_bit] at e
    have h8 : i % 8 < 8 := Nat.mod_lt _ (by decide)
    have e2 : 8 * (i / 8) + i % 8 = i := by omega
    simpa [h8, e2] using e
  · rw [Nat.testBit_lt_two_pow (Nat.lt_of_lt_of_le hx (Nat.pow_le_pow_right (by decide) (by omega))), Nat.testBit_lt_two_pow (Nat.lt_of_lt_of_le hy (Nat.pow_le_pow_right (by decide) (by omega)))]

def W64 (l : List Nat) : Prop := ∀ i, l.getD i 0 < 18446744073709551616
theorem words_ext (l m : List Nat) (hl : W64 l) (hm : W64 m) (e : l.length = m.length) (h : ∀ p, p < 8 * l.length → byteN (l.getD (p / 8) 0) (p % 8) = byteN (m.getD (p / 8) 0) (p % 8)) : l = m := by
  apply List.ext_getElem e
  intro i h1 h2
  have e1 : ∀ (x : List Nat) (h : i < x.length), x[i] = x.getD i 0 := fun x h => by rw [List.getD_eq_getElem?_getD, List.getElem?_eq_getElem h]; rfl
  rw [e1 _ h1, e1 _ h2]
  refine word_ext _ _ (hl i) (hm i) fun q hq => ?_
  have := h (8 * i + q) (by omega)
  rw [show (8 * i + q) / 8 = i by omega, show (8 * i + q) % 8 = q by omega] at this
  exact this

/-- the words l with the bytes d laid from byte f on, one by one -/
def layN (l : List Nat) (f : Nat) (d : List Nat) : Nat → List Nat
  | 0 => l
  | k + 1 => (layN l f d k).set ((f + k) / 8) (updN ((layN l f d k).getD ((f + k) / 8) 0) ((f + k) % 8) (d.getD k 0))
theorem layN_length (l : List Nat) (f : Nat) (d : List Nat) : ∀ k, (layN l f d k).length = l.length
  | 0 => rfl
  | k + 1 => by unfold layN; rw [List.length_set]; exact layN_length l f d k
theorem getD_set0 (l : List Nat) (i j x : Nat) (hi : i < l.length) : (l.set i x).getD j 0 = if j = i then x else l.getD j 0 := by
  rw [List.getD_eq_getElem?_getD, List.getElem?_set]
  by_cases e : i = j
  · subst e; rw [if_pos rfl, if_pos hi, if_pos rfl]; rfl
  · rw [if_neg e, if_neg (Ne.symm e), List.getD_eq_getElem?_getD]
theorem layN_is (l : List Nat) (f : Nat) (d : List Nat) (hl : W64 l) (hd : ∀ i, i < d.length → d.getD i 0 < 256) (hf : f + d.length ≤ 8 * l.length) : ∀ k, k ≤ d.length → W64 (layN l f d k) ∧ ∀ p, p < 8 * l.length → byteN ((layN l f d k).getD (p / 8) 0) (p % 8) = if f ≤ p ∧ p < f + k then d.getD (p - f) 0 else byteN (l.getD (p / 8) 0) (p % 8)
  | 0, _ => ⟨hl, fun p _ => by rw [if_neg (by omega)]; rfl⟩
  | k + 1, hk => by
    obtain ⟨h1, h2⟩ := layN_is l f d hl hd hf k (by omega)
    have hx := layN_length l f d k
    have hq : (f + k) % 8 < 8 := Nat.mod_lt _ (by decide)
    have hi : (f + k) / 8 < (layN l f d k).length := by rw [hx]; omega
    have hc := hd k (by omega)
    refine ⟨fun i => ?_, fun p hp => ?_⟩
    · unfold layN
      rw [getD_set0 _ _ _ _ hi]
      split
      · exact updN_lt _ _ _ hq (h1 _) hc
      · exact h1 i
    · unfold layN
      rw [getD_set0 _ _ _ _ hi]
      by_cases e : p / 8 = (f + k) / 8
      · rw [if_pos e, updN_byte _ _ _ _ hq (h1 _) hc]
        by_cases e2 : p % 8 = (f + k) % 8
        · have e3 : p = f + k := by omega
          subst e3
          rw [if_pos rfl, if_pos (by omega), Nat.add_sub_cancel_left]
        · rw [if_neg e2, ← e, h2 p hp]
          by_cases e4 : f ≤ p ∧ p < f + k
          · rw [if_pos e4, if_pos (by omega)]
          · rw [if_neg e4, if_neg (by omega)]
      · rw [if_neg e, h2 p hp]
        by_cases e4 : f ≤ p ∧ p < f + k
        · rw [if_pos e4, if_pos (by omega)]
        · rw [if_neg e4, if_neg (by omega)]
theorem layN_pack (l : List Nat) (f : Nat) (d : List Nat) (hl : W64 l) (hd : ∀ i, i < d.length → d.getD i 0 < 256) (hf : f + d.length ≤ 8 * l.length) : layN l f d d.length = Larder.packL (patch (Larder.unpackL l (8 * l.length)) f d) := by
  obtain ⟨h1, h2⟩ := layN_is l f d hl hd hf d.length (Nat.le_refl _)
  have hpl : (patch (Larder.unpackL l (8 * l.length)) f d).length = 8 * l.length := by rw [patch_length, Larder.unpackL_length]
  have hsm : Larder.SmallL (patch (Larder.unpackL l (8 * l.length)) f d) := patch_below 256 _ f d (Larder.unpackL_small _ _) hd
  have hwn : Larder.wn (8 * l.length) = l.length := by unfold Larder.wn; omega
  have hlen : (Larder.packL (patch (Larder.unpackL l (8 * l.length)) f d)).length = l.length := by rw [Larder.packL_length, hpl, hwn]
  refine words_ext _ _ h1 (fun i => ?_) (by rw [layN_length, hlen]) fun p hp => ?_
  · by_cases hi : i < l.length
    · rw [Larder.packL_get _ _ (by rw [hpl, hwn]; exact hi)]
      exact Larder.wordAt_lt (fun c hc => Larder.small_mem hsm c hc) i
    · rw [List.getD_eq_getElem?_getD, List.getElem?_eq_none (by omega)]; decide
  · rw [layN_length] at hp
    rw [h2 p hp]
    have h3 := Larder.unpack_pack hsm (8 * l.length) p hp (by rw [hpl, hwn]; exact Nat.le_refl _)
    rw [Larder.unpackL_get _ _ _ hp] at h3
    unfold byteN
    rw [h3, patch_at _ _ _ _ (by rw [Larder.unpackL_length]; exact hp)]
    by_cases e : f ≤ p ∧ p < f + d.length
    · rw [if_pos e, if_pos e]
    · rw [if_neg e, if_neg e, Larder.unpackL_get _ _ _ hp]
end Go.Proofs.YtidfllgaeiopjaaGreat
