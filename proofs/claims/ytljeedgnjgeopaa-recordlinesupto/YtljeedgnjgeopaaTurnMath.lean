/- Plain: texts with bits turned, and their sums. -/
import Derived.Test.YtljeedgnjgeopaaMath
namespace Larder

def bitAt (l : List Nat) (i : Nat) : Bool := (l.getD (i / 8) 0).testBit (7 - i % 8)

theorem bitsOf_length (l : List Nat) : (bitsOf l).length = 8 * l.length := by
  induction l with
  | nil => rfl
  | cons c l ih =>
    show (byteBits c ++ bitsOf l).length = _
    rw [List.length_append, ih, List.length_cons]
    simp [byteBits]; omega

theorem bitsOf_range (l : List Nat) : bitsOf l = (List.range (8 * l.length)).map (bitAt l) := by
  induction l with
  | nil => rfl
  | cons c l ih =>
    have e : 8 * (c :: l).length = 8 + 8 * l.length := by simp; omega
    rw [e, List.range_add, List.map_append, List.map_map]
    show byteBits c ++ bitsOf l = _
    rw [ih]
    congr 1
    apply List.map_congr_left
    intro i _
    have e1 : (8 + i) / 8 = i / 8 + 1 := by omega
    have e2 : (8 + i) % 8 = i % 8 := by omega
    simp only [Function.comp, bitAt, e1, e2, List.getD_cons_succ]

theorem ext8 {c d : Nat} (hc : c < 256) (hd : d < 256) (h : ∀ j, j < 8 → c.testBit j = d.testBit j) : c = d := by
  apply Nat.eq_of_testBit_eq
  intro j
  by_cases hj : j < 8
  · exact h j hj
  · rw [Nat.testBit_lt_two_pow (Nat.lt_of_lt_of_le (show c < 2 ^ 8 from hc) (Nat.pow_le_pow_right (by omega) (by omega))), Nat.testBit_lt_two_pow (Nat.lt_of_lt_of_le (show d < 2 ^ 8 from hd) (Nat.pow_le_pow_right (by omega) (by omega)))]

def SmallL (l : List Nat) : Prop := ∀ i, i < l.length → l.getD i 0 < 256

theorem ext_bits {l m : List Nat} (hl : SmallL l) (hm : SmallL m) (he : l.length = m.length) (h : ∀ i, i < 8 * l.length → bitAt l i = bitAt m i) : l = m := by
  apply List.ext_getElem he
  intro i h1 h2
  have hc := hl i h1
  have hd := hm i h2
  have key : l.getD i 0 = m.getD i 0 := by
    apply ext8 hc hd
    intro j hj
    have := h (8 * i + (7 - j)) (by omega)
    unfold bitAt at this
    rw [show (8 * i + (7 - j)) / 8 = i from by omega, show 7 - (8 * i + (7 - j)) % 8 = j from by omega] at this
    exact this
  rw [List.getD_eq_getElem?_getD, List.getD_eq_getElem?_getD, List.getElem?_eq_getElem h1, List.getElem?_eq_getElem h2] at key
  exact key

def flip (l : List Nat) (i : Nat) : List Nat := l.set (i / 8) (l.getD (i / 8) 0 ^^^ 2 ^ (7 - i % 8))

theorem flip_length (l : List Nat) (i : Nat) : (flip l i).length = l.length := by simp [flip]

theorem getD_set (l : List Nat) (i j v : Nat) : (l.set i v).getD j 0 = if i = j ∧ j < l.length then v else l.getD j 0 := by
  rw [List.getD_eq_getElem?_getD, List.getD_eq_getElem?_getD, List.getElem?_set]
  by_cases h : i = j
  · subst h
    by_cases h2 : i < l.length
    · simp [h2]
    · simp [h2]
  · simp [h]

theorem pow7_lt (i : Nat) : 2 ^ (7 - i % 8) < 256 := by
  have : 2 ^ (7 - i % 8) ≤ 2 ^ 7 := Nat.pow_le_pow_right (by omega) (by omega)
  omega

theorem flip_small {l : List Nat} (h : SmallL l) (i : Nat) : SmallL (flip l i) := by
  intro j hj
  rw [flip_length] at hj
  unfold flip
  rw [getD_set]
  split
  · rename_i hh
    obtain ⟨rfl, _⟩ := hh
    exact Nat.xor_lt_two_pow (n := 8) (h _ hj) (pow7_lt i)
  · exact h j hj

theorem flip_bit (l : List Nat) (i j : Nat) (hi : i < 8 * l.length) : bitAt (flip l i) j = (bitAt l j ^^ decide (i = j)) := by
  unfold bitAt flip
  rw [getD_set]
  by_cases h : i / 8 = j / 8
  · rw [if_pos ⟨h, by omega⟩, Nat.testBit_xor, Nat.testBit_two_pow, h]
    congr 1
    rw [decide_eq_decide]; omega
  · rw [if_neg (fun hh => h hh.1)]
    have : i ≠ j := by intro e; subst e; exact h rfl
    simp [this]

/-- the text with the first k bits of x turned, from bit 'at' on -/
def turnK (l : List Nat) (at' : Nat) (x : Nat) : Nat → List Nat
  | 0 => l
  | k + 1 => if x.testBit (63 - k) = true ∧ at' + k < 8 * l.length then flip (turnK l at' x k) (at' + k) else turnK l at' x k

theorem turnK_length (l : List Nat) (a x k : Nat) : (turnK l a x k).length = l.length := by
  induction k with
  | zero => rfl
  | succ k ih => unfold turnK; split <;> simp [flip_length, ih]

theorem turnK_small {l : List Nat} (h : SmallL l) (a x k : Nat) : SmallL (turnK l a x k) := by
  induction k with
  | zero => exact h
  | succ k ih => unfold turnK; split
                 · exact flip_small ih _
                 · exact ih

theorem turnK_bit (l : List Nat) (a x k i : Nat) (hi : i < 8 * l.length) : bitAt (turnK l a x k) i = (bitAt l i ^^ (decide (a ≤ i ∧ i < a + k) && x.testBit (63 - (i - a)))) := by
  induction k with
  | zero =>
    have : ¬ (a ≤ i ∧ i < a + 0) := by omega
    rw [decide_eq_false this]; simp [turnK]
  | succ k ih =>
    unfold turnK
    by_cases hc : x.testBit (63 - k) = true ∧ a + k < 8 * l.length
    · rw [if_pos hc, flip_bit _ _ _ (by rw [turnK_length]; exact hc.2), ih]
      by_cases e : a + k = i
      · subst e
        have h2 : a ≤ a + k ∧ a + k < a + (k + 1) := by omega
        have h3 : a + k - a = k := by omega
        simp [h2, h3, hc.1]
      · have : (a ≤ i ∧ i < a + (k + 1)) ↔ (a ≤ i ∧ i < a + k) := by omega
        simp [e, this]
    · rw [if_neg hc, ih]
      by_cases e : a + k = i
      · subst e
        have h3 : a + k - a = k := by omega
        have h4 : x.testBit (63 - k) = false := by
          cases h : x.testBit (63 - k)
          · rfl
          · exact absurd ⟨h, hi⟩ hc
        simp [h3, h4]
      · have : (a ≤ i ∧ i < a + (k + 1)) ↔ (a ≤ i ∧ i < a + k) := by omega
        simp [this]

theorem zipWith_map2 {α β γ : Type} (f : β → β → γ) (g h : α → β) (l : List α) : List.zipWith f (l.map g) (l.map h) = l.map fun i => f (g i) (h i) := by
  induction l with
  | nil => rfl
  | cons x l ih => simp [ih]

theorem turn_sum {l : List Nat} (hs : SmallL l) (a x : Nat) (he : sumOf (turnK l a x 64) = sumOf l) : turnK l a x 64 = l := by
  have hlen := turnK_length l a x 64
  have hz : List.zipWith (· ^^ ·) (bitsOf (turnK l a x 64)) (bitsOf l) = (List.range (8 * l.length)).map fun i => (decide (a ≤ i ∧ i < a + 64) && x.testBit (63 - (i - a))) := by
    rw [bitsOf_range (turnK l a x 64), bitsOf_range l, hlen, zipWith_map2]
    apply List.map_congr_left
    intro i hi
    rw [turnK_bit l a x 64 i (List.mem_range.1 hi)]
    cases bitAt l i <;> simp
  generalize hL : ((List.range (8 * l.length)).map fun i => (decide (a ≤ i ∧ i < a + 64) && x.testBit (63 - (i - a)))) = L at hz
  have hLlen : L.length = 8 * l.length := by rw [← hL]; simp
  have hLget : ∀ i, i < L.length → L[i]? = some (decide (a ≤ i ∧ i < a + 64) && x.testBit (63 - (i - a))) := by
    intro i hi
    rw [← hL, List.getElem?_map, List.getElem?_range (by omega)]; rfl
  have h1 : L.take a = List.replicate (L.take a).length false := by
    apply List.ext_getElem? 
    intro i
    by_cases hi : i < (L.take a).length
    · rw [List.getElem?_replicate, if_pos hi]
      have hi2 : i < a ∧ i < L.length := by simp at hi; omega
      rw [List.getElem?_take, if_pos hi2.1, hLget i hi2.2]
      have : ¬ (a ≤ i ∧ i < a + 64) := by omega
      simp [this]
    · rw [List.getElem?_eq_none (by omega), List.getElem?_eq_none (by simp at *; omega)]
  have h3 : (L.drop a).drop 64 = List.replicate ((L.drop a).drop 64).length false := by
    apply List.ext_getElem?
    intro i
    by_cases hi : i < ((L.drop a).drop 64).length
    · rw [List.getElem?_replicate, if_pos hi]
      have hi2 : a + (64 + i) < L.length := by simp at hi; omega
      rw [List.getElem?_drop, List.getElem?_drop, hLget _ hi2]
      have : ¬ (a ≤ a + (64 + i) ∧ a + (64 + i) < a + 64) := by omega
      rw [decide_eq_false this]; simp
    · rw [List.getElem?_eq_none (by omega), List.getElem?_eq_none (by simp at *; omega)]
  have hsplit : L = List.replicate (L.take a).length false ++ (L.drop a).take 64 ++ List.replicate ((L.drop a).drop 64).length false := by
    rw [← h1, ← h3, List.append_assoc, List.take_append_drop, List.take_append_drop]
  have hd := burst (BitVec.allOnes 64) (bitsOf (turnK l a x 64)) (bitsOf l) _ ((L.drop a).take 64) _ (by rw [bitsOf_length, bitsOf_length, hlen]) (by simp; omega) (hz.trans hsplit) he
  apply ext_bits (turnK_small hs a x 64) hs hlen
  intro i hi
  rw [hlen] at hi
  rw [turnK_bit l a x 64 i hi]
  by_cases hin : a ≤ i ∧ i < a + 64
  · have hm : (decide (a ≤ i ∧ i < a + 64) && x.testBit (63 - (i - a))) ∈ (L.drop a).take 64 := by
      apply List.mem_iff_getElem?.2
      refine ⟨i - a, ?_⟩
      rw [List.getElem?_take, if_pos (by omega), List.getElem?_drop, show a + (i - a) = i from by omega, hLget i (by omega)]
    rw [hd _ hm]; simp
  · simp [hin]

theorem big_small (s : BitVec 64) : ∀ c ∈ bigBytes s, c < 256 := by
  intro c hc
  simp only [bigBytes, List.mem_cons, List.not_mem_nil, or_false] at hc
  rcases hc with rfl | rfl | rfl | rfl | rfl | rfl | rfl | rfl <;> exact Nat.mod_lt _ (by decide)
end Larder
