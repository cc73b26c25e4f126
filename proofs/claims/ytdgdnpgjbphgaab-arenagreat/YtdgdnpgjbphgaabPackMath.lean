/- Plain: bytes as words. -/
import Derived.Test.YtdgdnpgjbphgaabHead
namespace Larder

def SmallL (l : List Nat) : Prop := ∀ i, i < l.length → l.getD i 0 < 256

def leN : List Nat → Nat
  | [] => 0
  | c :: l => c + 256 * leN l

theorem leN_lt (l : List Nat) (h : ∀ c ∈ l, c < 256) : leN l < 256 ^ l.length := by
  induction l with
  | nil => simp [leN]
  | cons c l ih =>
    have h1 := h c (List.mem_cons_self ..)
    have h2 := ih fun x hx => h x (List.mem_cons_of_mem _ hx)
    rw [leN, List.length_cons, Nat.pow_succ]
    omega

theorem leN_snoc (l : List Nat) (c : Nat) : leN (l ++ [c]) = leN l + c * 256 ^ l.length := by
  induction l with
  | nil => simp [leN]
  | cons d l ih =>
    rw [List.cons_append, leN, ih, leN, List.length_cons, Nat.pow_succ, Nat.mul_add, ← Nat.add_assoc]
    congr 1
    rw [Nat.mul_comm (256 ^ l.length) 256, Nat.mul_left_comm]

theorem leN_digit (l : List Nat) (h : ∀ c ∈ l, c < 256) (r : Nat) : leN l / 256 ^ r % 256 = l.getD r 0 := by
  induction l generalizing r with
  | nil => simp [leN]
  | cons c l ih =>
    have h1 := h c (List.mem_cons_self ..)
    cases r with
    | zero => simp only [leN, Nat.pow_zero, Nat.div_one, List.getD_cons_zero]; omega
    | succ r =>
      rw [List.getD_cons_succ, ← ih (fun x hx => h x (List.mem_cons_of_mem _ hx)) r, leN, Nat.pow_succ, Nat.mul_comm (256 ^ r) 256, ← Nat.div_div_eq_div_mul]
      congr 2
      omega

theorem small_mem {l : List Nat} (h : SmallL l) : ∀ c ∈ l, c < 256 := by
  intro c hc
  obtain ⟨i, hi, rfl⟩ := List.mem_iff_getElem.1 hc
  have := h i hi
  rwa [List.getD_eq_getElem?_getD, List.getElem?_eq_getElem hi] at this

theorem pow256 (r : Nat) : 256 ^ r = 2 ^ (8 * r) := by rw [show 256 = 2 ^ 8 from rfl, ← Nat.pow_mul]

def wordAt (l : List Nat) (j : Nat) : Nat := leN ((l.drop (8 * j)).take 8)
/-- how many words -/
def wn (n : Nat) : Nat := (n + 7) / 8
def packK (l : List Nat) (k : Nat) : List Nat := (List.range (wn l.length)).map (wordAt (l.take k))
def packL (l : List Nat) : List Nat := (List.range (wn l.length)).map (wordAt l)

theorem packK_length (l : List Nat) (k : Nat) : (packK l k).length = wn l.length := by simp [packK]
theorem packL_length (l : List Nat) : (packL l).length = wn l.length := by simp [packL]
theorem packK_all (l : List Nat) : packK l l.length = packL l := by unfold packK packL; rw [List.take_length]
theorem packK_zero (l : List Nat) : packK l 0 = List.replicate (wn l.length) 0 := by
  unfold packK
  rw [List.eq_replicate_iff]
  refine ⟨by simp, ?_⟩
  intro b hb
  obtain ⟨j, _, rfl⟩ := List.mem_map.1 hb
  simp [wordAt, leN]

theorem wordAt_lt {l : List Nat} (h : ∀ c ∈ l, c < 256) (j : Nat) : wordAt l j < 18446744073709551616 := by
  have h1 := leN_lt ((l.drop (8 * j)).take 8) (fun c hc => h c (List.mem_of_mem_drop (List.mem_of_mem_take hc)))
  have h2 : ((l.drop (8 * j)).take 8).length ≤ 8 := List.length_take_le _ _
  have h3 : 256 ^ ((l.drop (8 * j)).take 8).length ≤ 256 ^ 8 := Nat.pow_le_pow_right (by omega) h2
  unfold wordAt
  have : (256 : Nat) ^ 8 = 18446744073709551616 := by decide
  omega

theorem packK_get (l : List Nat) (k j : Nat) (hj : j < wn l.length) : (packK l k).getD j 0 = wordAt (l.take k) j := by
  unfold packK
  rw [List.getD_eq_getElem?_getD, List.getElem?_map, List.getElem?_range hj]; rfl

theorem packL_get (l : List Nat) (j : Nat) (hj : j < wn l.length) : (packL l).getD j 0 = wordAt l j := by
  rw [← packK_all, packK_get _ _ _ hj, List.take_length]

theorem packK_lt {l : List Nat} (h : SmallL l) (k j : Nat) : (packK l k).getD j 0 < 18446744073709551616 := by
  by_cases hj : j < wn l.length
  · rw [packK_get _ _ _ hj]
    exact wordAt_lt (fun c hc => small_mem h c (List.mem_of_mem_take hc)) j
  · rw [List.getD_eq_getElem?_getD, List.getElem?_eq_none (by rw [packK_length]; omega)]; decide

theorem chunk (l : List Nat) (k : Nat) (hk : k < l.length) :
    (((l.take (k + 1)).drop (8 * (k / 8))).take 8) = (((l.take k).drop (8 * (k / 8))).take 8) ++ [l.getD k 0] ∧ (((l.take k).drop (8 * (k / 8))).take 8).length = k % 8 := by
  have e : l.take (k + 1) = l.take k ++ [l.getD k 0] := by
    rw [List.take_succ_eq_append_getElem hk, List.getD_eq_getElem?_getD, List.getElem?_eq_getElem hk]; rfl
  have hl : (l.take k).length = k := by rw [List.length_take]; omega
  have hd : ((l.take k).drop (8 * (k / 8))).length = k % 8 := by rw [List.length_drop, hl]; omega
  refine ⟨?_, by rw [List.length_take, hd]; omega⟩
  rw [e, List.drop_append_of_le_length (by omega)]
  generalize (l.take k).drop (8 * (k / 8)) = D at hd ⊢
  rw [List.take_of_length_le (by rw [List.length_append, hd]; simp; omega), List.take_of_length_le (by omega)]

theorem packK_old {l : List Nat} (h : SmallL l) (k : Nat) (hk : k < l.length) : (packK l k).getD (k / 8) 0 < 2 ^ (8 * (k % 8)) := by
  rw [packK_get _ _ _ (by unfold wn; omega), ← pow256, ← (chunk l k hk).2]
  exact leN_lt _ fun c hc => small_mem h c (List.mem_of_mem_take (List.mem_of_mem_drop (List.mem_of_mem_take hc)))

theorem packK_succ (l : List Nat) (k : Nat) (hk : k < l.length) :
    packK l (k + 1) = (packK l k).set (k / 8) (l.getD k 0 * 2 ^ (8 * (k % 8)) + (packK l k).getD (k / 8) 0) := by
  apply List.ext_getElem?
  intro j
  by_cases hj : j < wn l.length
  · rw [List.getElem?_set, packK_length]
    have g1 : (packK l (k + 1))[j]? = some (wordAt (l.take (k + 1)) j) := by unfold packK; rw [List.getElem?_map, List.getElem?_range hj]; rfl
    have g2 : (packK l k)[j]? = some (wordAt (l.take k) j) := by unfold packK; rw [List.getElem?_map, List.getElem?_range hj]; rfl
    by_cases e : k / 8 = j
    · subst e
      rw [if_pos rfl, if_pos hj, g1, packK_get _ _ _ hj]
      unfold wordAt
      rw [(chunk l k hk).1, leN_snoc, (chunk l k hk).2, pow256, Nat.add_comm]
    · rw [if_neg e, g1, g2]
      unfold wordAt
      congr 2
      by_cases hlt : j < k / 8
      · apply List.ext_getElem?
        intro i
        rw [List.getElem?_take, List.getElem?_take]
        by_cases hi : i < 8
        · rw [if_pos hi, if_pos hi, List.getElem?_drop, List.getElem?_drop, List.getElem?_take, List.getElem?_take, if_pos (by omega), if_pos (by omega)]
        · rw [if_neg hi, if_neg hi]
      · rw [List.drop_eq_nil_of_le (by rw [List.length_take]; omega), List.drop_eq_nil_of_le (by rw [List.length_take]; omega)]
  · rw [List.getElem?_eq_none (by rw [packK_length]; omega), List.getElem?_eq_none (by rw [List.length_set, packK_length]; omega)]

def unpackL (ws : List Nat) (n : Nat) : List Nat := (List.range n).map fun i => ws.getD (i / 8) 0 / 2 ^ (8 * (i % 8)) % 256

theorem unpackL_length (ws : List Nat) (n : Nat) : (unpackL ws n).length = n := by simp [unpackL]
theorem unpackL_get (ws : List Nat) (n i : Nat) (hi : i < n) : (unpackL ws n).getD i 0 = ws.getD (i / 8) 0 / 2 ^ (8 * (i % 8)) % 256 := by
  unfold unpackL
  rw [List.getD_eq_getElem?_getD, List.getElem?_map, List.getElem?_range hi]; rfl
theorem unpackL_small (ws : List Nat) (n : Nat) : SmallL (unpackL ws n) := by
  intro i hi
  rw [unpackL_length] at hi
  rw [unpackL_get _ _ _ hi]; exact Nat.mod_lt _ (by decide)

theorem unpack_pack {l : List Nat} (h : SmallL l) (n i : Nat) (hi : i < n) (hn : n ≤ 8 * wn l.length) : (unpackL (packL l) n).getD i 0 = l.getD i 0 := by
  rw [unpackL_get _ _ _ hi, packL_get _ _ (by omega), ← pow256]
  unfold wordAt
  rw [leN_digit _ (fun c hc => small_mem h c (List.mem_of_mem_drop (List.mem_of_mem_take hc)))]
  rw [List.getD_eq_getElem?_getD, List.getElem?_take, if_pos (by omega), List.getElem?_drop, List.getD_eq_getElem?_getD]
  congr 2; omega

/-- k bytes are there, the others still 0 -/
def unpackK (ws : List Nat) (n k : Nat) : List Nat := (List.range n).map fun i => if i < k then ws.getD (i / 8) 0 / 2 ^ (8 * (i % 8)) % 256 else 0
theorem unpackK_length (ws : List Nat) (n k : Nat) : (unpackK ws n k).length = n := by simp [unpackK]
theorem unpackK_zero (ws : List Nat) (n : Nat) : unpackK ws n 0 = List.replicate n 0 := by
  unfold unpackK
  rw [List.eq_replicate_iff]
  refine ⟨by simp, ?_⟩
  intro b hb
  obtain ⟨j, _, rfl⟩ := List.mem_map.1 hb
  simp
theorem unpackK_all (ws : List Nat) (n : Nat) : unpackK ws n n = unpackL ws n := by
  unfold unpackK unpackL
  apply List.map_congr_left
  intro i hi
  rw [if_pos (List.mem_range.1 hi)]
theorem unpackK_succ (ws : List Nat) (n k : Nat) : unpackK ws n (k + 1) = (unpackK ws n k).set k (ws.getD (k / 8) 0 / 2 ^ (8 * (k % 8)) % 256) := by
  apply List.ext_getElem?
  intro j
  by_cases hj : j < n
  · rw [List.getElem?_set, unpackK_length]
    have g : ∀ k', (unpackK ws n k')[j]? = some (if j < k' then ws.getD (j / 8) 0 / 2 ^ (8 * (j % 8)) % 256 else 0) := by
      intro k'; unfold unpackK; rw [List.getElem?_map, List.getElem?_range hj]; rfl
    rw [g, g]
    by_cases e : k = j
    · subst e
      rw [if_pos (by omega), if_pos rfl, if_pos hj]
    · rw [if_neg e]
      by_cases h2 : j < k
      · rw [if_pos (by omega), if_pos h2]
      · rw [if_neg (by omega), if_neg h2]
  · rw [List.getElem?_eq_none (by rw [unpackK_length]; omega), List.getElem?_eq_none (by rw [List.length_set, unpackK_length]; omega)]
end Larder
