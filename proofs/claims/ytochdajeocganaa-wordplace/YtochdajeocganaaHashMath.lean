/- Plain: the hash. -/
import Derived.Test.YtochdajeocganaaPackMath
namespace Larder

def shx (s : Nat) (x : BitVec 64) : BitVec 64 := x ^^^ (x >>> s)
theorem shx_inj (s : Nat) (hs : 0 < s) {x y : BitVec 64} (h : shx s x = shx s y) : x = y := by
  unfold shx at h
  have h1 : (x ^^^ y) = (x ^^^ y) >>> s := by
    rw [BitVec.ushiftRight_xor_distrib]
    have h2 : (x ^^^ x >>> s) ^^^ (y ^^^ y >>> s) = 0#64 := by rw [h, BitVec.xor_self]
    rw [xor4] at h2
    exact BitVec.xor_eq_zero_iff.1 h2
  have h3 : (x ^^^ y).toNat = (x ^^^ y).toNat / 2 ^ s := by
    have := congrArg BitVec.toNat h1
    rw [BitVec.toNat_ushiftRight, Nat.shiftRight_eq_div_pow] at this
    exact this
  have h4 : 2 ≤ 2 ^ s := by
    have := Nat.pow_le_pow_right (n := 2) (by omega) hs
    omega
  have h5 : (x ^^^ y).toNat = 0 := by
    rcases Nat.eq_zero_or_pos (x ^^^ y).toNat with h | h
    · exact h
    · exfalso
      have := Nat.div_lt_self h h4
      omega
  have h6 : x ^^^ y = 0#64 := BitVec.eq_of_toNat_eq h5
  exact BitVec.xor_eq_zero_iff.1 h6

def mixB (x : BitVec 64) : BitVec 64 := shx 32 (shx 29 (shx 32 x * 0xd6a5c39b71e4f28d#64) * 0xb34f6e1d9c2a7585#64)

theorem mul_inj (c d : BitVec 64) (h : c * d = 1#64) {x y : BitVec 64} (e : x * c = y * c) : x = y := by
  have : x * c * d = y * c * d := by rw [e]
  rwa [BitVec.mul_assoc, BitVec.mul_assoc, h, BitVec.mul_one, BitVec.mul_one] at this

theorem inv1 : 0xd6a5c39b71e4f28d#64 * 0xfd61fcd4491d2045#64 = 1#64 := by decide
theorem inv2 : 0xb34f6e1d9c2a7585#64 * 0xdde964fc38213b4d#64 = 1#64 := by decide

theorem mixB_inj {x y : BitVec 64} (h : mixB x = mixB y) : x = y :=
  shx_inj 32 (by decide) (mul_inj _ _ inv1 (shx_inj 29 (by decide) (mul_inj _ _ inv2 (shx_inj 32 (by decide) h))))

def shN (s x : Nat) : Nat := x ^^^ (x / 2 ^ s)
def mixN (x : Nat) : Nat := shN 32 (shN 29 (shN 32 x * 15466983567672013453 % 18446744073709551616) * 12920666929402377605 % 18446744073709551616)

theorem shx_toNat (s : Nat) (x : BitVec 64) : (shx s x).toNat = shN s x.toNat := by
  unfold shx shN
  rw [BitVec.toNat_xor, BitVec.toNat_ushiftRight, Nat.shiftRight_eq_div_pow]

theorem mix_toNat (x : BitVec 64) : (mixB x).toNat = mixN x.toNat := by
  unfold mixB mixN
  rw [shx_toNat, BitVec.toNat_mul, shx_toNat, BitVec.toNat_mul, shx_toNat]
  rfl

theorem mixN_of (x : Nat) (h : x < 18446744073709551616) : mixN x = (mixB (BitVec.ofNat 64 x)).toNat := by
  rw [mix_toNat, BitVec.toNat_ofNat, Nat.mod_eq_of_lt h]
theorem mixN_lt (x : Nat) (h : x < 18446744073709551616) : mixN x < 18446744073709551616 := by rw [mixN_of x h]; exact BitVec.isLt _
theorem mixN_inj {x y : Nat} (hx : x < 18446744073709551616) (hy : y < 18446744073709551616) (h : mixN x = mixN y) : x = y := by
  rw [mixN_of x hx, mixN_of y hy] at h
  have := mixB_inj (BitVec.eq_of_toNat_eq h)
  have := congrArg BitVec.toNat this
  rwa [BitVec.toNat_ofNat, BitVec.toNat_ofNat, Nat.mod_eq_of_lt hx, Nat.mod_eq_of_lt hy] at this

theorem xor64 {a b : Nat} (ha : a < 18446744073709551616) (hb : b < 18446744073709551616) : a ^^^ b < 18446744073709551616 := Nat.xor_lt_two_pow (n := 64) ha hb
theorem shN_lt (s : Nat) {x : Nat} (h : x < 18446744073709551616) : shN s x < 18446744073709551616 := xor64 h (Nat.lt_of_le_of_lt (Nat.div_le_self _ _) h)

def foldH (h : Nat) (ws : List Nat) : Nat := ws.foldl (fun h w => mixN (h ^^^ w)) h

theorem xor_inj_left {a b c : Nat} (h : a ^^^ c = b ^^^ c) : a = b := by
  have : (a ^^^ c) ^^^ c = (b ^^^ c) ^^^ c := by rw [h]
  rwa [Nat.xor_assoc, Nat.xor_assoc, Nat.xor_self, Nat.xor_zero, Nat.xor_zero] at this
theorem xor_inj_right {a b c : Nat} (h : c ^^^ a = c ^^^ b) : a = b := by
  rw [Nat.xor_comm c a, Nat.xor_comm c b] at h; exact xor_inj_left h

theorem foldH_lt (ws : List Nat) (hw : ∀ c ∈ ws, c < 18446744073709551616) (h : Nat) (hh : h < 18446744073709551616) : foldH h ws < 18446744073709551616 := by
  induction ws generalizing h with
  | nil => exact hh
  | cons c ws ih =>
    exact ih (fun x hx => hw x (List.mem_cons_of_mem _ hx)) _ (mixN_lt _ (xor64 hh (hw c (List.mem_cons_self ..))))

theorem foldH_start (ws : List Nat) (hw : ∀ c ∈ ws, c < 18446744073709551616) (h h' : Nat) (hh : h < 18446744073709551616) (hh' : h' < 18446744073709551616) (e : foldH h ws = foldH h' ws) : h = h' := by
  induction ws generalizing h h' with
  | nil => exact e
  | cons c ws ih =>
    have hc := hw c (List.mem_cons_self ..)
    have := ih (fun x hx => hw x (List.mem_cons_of_mem _ hx)) _ _ (mixN_lt _ (xor64 hh hc)) (mixN_lt _ (xor64 hh' hc)) e
    exact xor_inj_left (mixN_inj (xor64 hh hc) (xor64 hh' hc) this)

theorem foldH_one (ws : List Nat) : ∀ (vs : List Nat) (a h : Nat), (∀ c ∈ ws, c < 18446744073709551616) → (∀ c ∈ vs, c < 18446744073709551616) → h < 18446744073709551616 → ws.length = vs.length → (∀ j, j ≠ a → ws.getD j 0 = vs.getD j 0) → foldH h ws = foldH h vs → ws = vs := by
  induction ws with
  | nil => intro vs a h _ _ _ hl _ _; exact (List.eq_nil_of_length_eq_zero hl.symm).symm
  | cons c ws ih =>
    intro vs a h hw hv hh hl hj e
    cases vs with
    | nil => simp at hl
    | cons d vs =>
      have hl' : ws.length = vs.length := by simpa using hl
      have hc := hw c (List.mem_cons_self ..)
      have hd := hv d (List.mem_cons_self ..)
      have hw' : ∀ x ∈ ws, x < 18446744073709551616 := fun x hx => hw x (List.mem_cons_of_mem _ hx)
      have hv' : ∀ x ∈ vs, x < 18446744073709551616 := fun x hx => hv x (List.mem_cons_of_mem _ hx)
      by_cases ha : a = 0
      · have ht : ws = vs := by
          apply List.ext_getElem hl'
          intro j h1 h2
          have := hj (j + 1) (by omega)
          rw [List.getD_cons_succ, List.getD_cons_succ, List.getD_eq_getElem?_getD, List.getD_eq_getElem?_getD, List.getElem?_eq_getElem h1, List.getElem?_eq_getElem h2] at this
          exact this
        subst ht
        have := foldH_start ws hw' _ _ (mixN_lt _ (xor64 hh hc)) (mixN_lt _ (xor64 hh hd)) e
        rw [xor_inj_right (mixN_inj (xor64 hh hc) (xor64 hh hd) this)]
      · have h0 : c = d := hj 0 (by omega)
        subst h0
        rw [ih vs (a - 1) _ hw' hv' (mixN_lt _ (xor64 hh hc)) hl' (fun j hne => by
          have := hj (j + 1) (by omega)
          rwa [List.getD_cons_succ, List.getD_cons_succ] at this) e]

def hashN (seed : Nat) (l : List Nat) : Nat := foldH (mixN ((seed + l.length) % 18446744073709551616)) (packL l)

theorem packL_mem_lt {l : List Nat} (h : SmallL l) : ∀ c ∈ packL l, c < 18446744073709551616 := by
  intro c hc
  obtain ⟨j, _, rfl⟩ := List.mem_map.1 hc
  exact wordAt_lt (small_mem h) j

theorem hashN_lt (seed : Nat) {l : List Nat} (h : SmallL l) : hashN seed l < 18446744073709551616 :=
  foldH_lt _ (packL_mem_lt h) _ (mixN_lt _ (Nat.mod_lt _ (by decide)))

theorem hash_seeds {l : List Nat} (h : SmallL l) {s t : Nat} (hs : s < 18446744073709551616) (ht : t < 18446744073709551616) (e : hashN s l = hashN t l) : s = t := by
  have h1 := foldH_start _ (packL_mem_lt h) _ _ (mixN_lt _ (Nat.mod_lt _ (by decide))) (mixN_lt _ (Nat.mod_lt _ (by decide))) e
  have h2 := mixN_inj (Nat.mod_lt _ (by decide)) (Nat.mod_lt _ (by decide)) h1
  omega

theorem packL_inj {l m : List Nat} (hl : SmallL l) (hm : SmallL m) (he : l.length = m.length) (h : packL l = packL m) : l = m := by
  apply List.ext_getElem he
  intro i h1 h2
  have a1 := unpack_pack hl l.length i h1 (by unfold wn; omega)
  have a2 := unpack_pack hm l.length i h1 (by unfold wn; omega)
  rw [h] at a1
  rw [a1] at a2
  rw [List.getD_eq_getElem?_getD, List.getD_eq_getElem?_getD, List.getElem?_eq_getElem h1, List.getElem?_eq_getElem h2] at a2
  exact a2

theorem hash_apart {l m : List Nat} (hl : SmallL l) (hm : SmallL m) (he : l.length = m.length) (a seed : Nat) (hj : ∀ i, i < l.length → ¬ (8 * a ≤ i ∧ i < 8 * a + 8) → l.getD i 0 = m.getD i 0)
    (h : hashN seed l = hashN seed m) : l = m := by
  apply packL_inj hl hm he
  unfold hashN at h
  rw [← he] at h
  refine foldH_one (packL l) (packL m) a _ (packL_mem_lt hl) (packL_mem_lt hm) (mixN_lt _ (Nat.mod_lt _ (by decide))) (by rw [packL_length, packL_length, he]) ?_ h
  intro j hne
  by_cases hjn : j < wn l.length
  · rw [packL_get _ _ hjn, packL_get _ _ (by rw [← he]; exact hjn)]
    unfold wordAt
    congr 1
    apply List.ext_getElem?
    intro i
    rw [List.getElem?_take, List.getElem?_take]
    by_cases hi : i < 8
    · rw [if_pos hi, if_pos hi, List.getElem?_drop, List.getElem?_drop]
      by_cases hlt : 8 * j + i < l.length
      · have := hj (8 * j + i) hlt (by omega)
        rw [List.getD_eq_getElem?_getD, List.getD_eq_getElem?_getD, List.getElem?_eq_getElem hlt, List.getElem?_eq_getElem (by omega : 8 * j + i < m.length)] at this
        rw [List.getElem?_eq_getElem hlt, List.getElem?_eq_getElem (by omega : 8 * j + i < m.length)]
        exact congrArg some this
      · rw [List.getElem?_eq_none (by omega), List.getElem?_eq_none (by omega)]
    · rw [if_neg hi, if_neg hi]
  · rw [List.getD_eq_getElem?_getD, List.getD_eq_getElem?_getD, List.getElem?_eq_none (by rw [packL_length]; omega), List.getElem?_eq_none (by rw [packL_length, ← he]; omega)]

/-- the text with k bytes of x turned in the word a -/
def changeK (l : List Nat) (a x : Nat) : Nat → List Nat
  | 0 => l
  | k + 1 => if 8 * a + k < l.length then (changeK l a x k).set (8 * a + k) ((changeK l a x k).getD (8 * a + k) 0 ^^^ (x / 2 ^ (8 * k) % 256)) else changeK l a x k

theorem changeK_length (l : List Nat) (a x k : Nat) : (changeK l a x k).length = l.length := by
  induction k with
  | zero => rfl
  | succ k ih => unfold changeK; split <;> simp [ih]
theorem changeK_small {l : List Nat} (h : SmallL l) (a x k : Nat) : SmallL (changeK l a x k) := by
  induction k with
  | zero => exact h
  | succ k ih =>
    unfold changeK
    split
    · intro j hj
      rw [List.length_set] at hj
      rw [getD_set]
      split
      · rename_i hh
        obtain ⟨rfl, hlt⟩ := hh
        exact Nat.xor_lt_two_pow (n := 8) (ih _ hlt) (Nat.mod_lt _ (by decide))
      · exact ih j hj
    · exact ih
theorem changeK_other (l : List Nat) (a x k i : Nat) (hk : k ≤ 8) (hi : ¬ (8 * a ≤ i ∧ i < 8 * a + 8)) : (changeK l a x k).getD i 0 = l.getD i 0 := by
  induction k with
  | zero => rfl
  | succ k ih =>
    unfold changeK
    split
    · rw [getD_set, if_neg (by omega), ih (by omega)]
    · exact ih (by omega)
end Larder
