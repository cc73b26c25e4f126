/- The plain mathematics of package word: the cyclic sum as a linear register. -/
namespace Larder

/-- one step of the register without input -/
def crcL (x : BitVec 64) : BitVec 64 := (x <<< 1) ^^^ (if x.msb then 0x42f0e1eba9ea3693#64 else 0#64)

theorem crcL_zero : crcL 0#64 = 0#64 := by decide

theorem crcL_xor (x y : BitVec 64) : crcL (x ^^^ y) = crcL x ^^^ crcL y := by
  unfold crcL
  rw [BitVec.msb_xor, BitVec.shiftLeft_xor_distrib]
  generalize x <<< 1 = a
  generalize y <<< 1 = b
  generalize 0x42f0e1eba9ea3693#64 = p
  cases x.msb <;> cases y.msb <;> simp [BitVec.xor_assoc]
  · rw [BitVec.xor_comm]
  · rw [BitVec.xor_comm p, BitVec.xor_assoc, BitVec.xor_self, BitVec.xor_zero]

theorem crcL_low (x : BitVec 64) : (crcL x).getLsbD 0 = x.msb := by
  unfold crcL
  cases h : x.msb <;> simp

theorem crcL_eq_zero {x : BitVec 64} (h : crcL x = 0#64) : x = 0#64 := by
  have hm : x.msb = false := by have := crcL_low x; rw [h] at this; simpa using this.symm
  unfold crcL at h
  simp [hm] at h
  apply BitVec.eq_of_getLsbD_eq
  intro i hi
  by_cases h63 : i = 63
  · subst h63; simpa [BitVec.msb_eq_getLsbD_last] using hm
  · have := congrArg (fun z : BitVec 64 => z.getLsbD (i+1)) h
    simp at this
    simpa using this (by omega)

/-- k steps without input -/
def crcLn : Nat → BitVec 64 → BitVec 64
  | 0, x => x
  | k + 1, x => crcLn k (crcL x)

theorem crcLn_zero (k : Nat) : crcLn k 0#64 = 0#64 := by
  induction k with
  | zero => rfl
  | succ k ih => rw [crcLn, crcL_zero, ih]

theorem crcLn_xor (k : Nat) (x y : BitVec 64) : crcLn k (x ^^^ y) = crcLn k x ^^^ crcLn k y := by
  induction k generalizing x y with
  | zero => rfl
  | succ k ih => rw [crcLn, crcL_xor, ih]; rfl

theorem crcLn_eq_zero (k : Nat) {x : BitVec 64} (h : crcLn k x = 0#64) : x = 0#64 := by
  induction k generalizing x with
  | zero => exact h
  | succ k ih => exact crcL_eq_zero (ih h)

def topBit (b : Bool) : BitVec 64 := if b then 0x8000000000000000#64 else 0#64

/-- the register over bits -/
def feed (r : BitVec 64) : List Bool → BitVec 64
  | [] => r
  | b :: l => feed (crcL (r ^^^ topBit b)) l

theorem feed_append (r : BitVec 64) (l m : List Bool) : feed r (l ++ m) = feed (feed r l) m := by
  induction l generalizing r with
  | nil => rfl
  | cons b l ih => exact ih _

theorem topBit_xor (a b : Bool) : topBit (a ^^ b) = topBit a ^^^ topBit b := by cases a <;> cases b <;> decide

theorem xor4 (a b c d : BitVec 64) : (a ^^^ b) ^^^ (c ^^^ d) = (a ^^^ c) ^^^ (b ^^^ d) := by
  rw [BitVec.xor_assoc, BitVec.xor_assoc, ← BitVec.xor_assoc b c d, BitVec.xor_comm b c, BitVec.xor_assoc c b d]

theorem feed_xor (r s : BitVec 64) (l m : List Bool) (h : l.length = m.length) :
    feed (r ^^^ s) (List.zipWith (· ^^ ·) l m) = feed r l ^^^ feed s m := by
  induction l generalizing r s m with
  | nil => cases m with
    | nil => rfl
    | cons _ _ => simp at h
  | cons a l ih => cases m with
    | nil => simp at h
    | cons b m =>
      simp only [List.zipWith_cons_cons, feed]
      rw [topBit_xor, xor4, crcL_xor]
      exact ih _ _ _ (by simpa using h)

theorem feed_false (r : BitVec 64) (k : Nat) : feed r (List.replicate k false) = crcLn k r := by
  induction k generalizing r with
  | zero => rfl
  | succ k ih => rw [List.replicate_succ, feed, ih]; simp [topBit, crcLn]

/-- up to 64 bits as a word, the first the highest -/
def wordOf : List Bool → BitVec 64
  | [] => 0#64
  | b :: l => topBit b ^^^ (wordOf l >>> 1)

theorem wordOf_low (l : List Bool) (i : Nat) (h : i + l.length < 64) : (wordOf l).getLsbD i = false := by
  induction l generalizing i with
  | nil => simp [wordOf]
  | cons b l ih =>
    simp only [List.length_cons] at h
    rw [wordOf, BitVec.getLsbD_xor, BitVec.getLsbD_ushiftRight, Nat.add_comm 1 i, ih (i + 1) (by omega), Bool.xor_false]
    have hi : i ≠ 63 := by omega
    cases b
    · simp [topBit]
    · have : (0x8000000000000000#64) = BitVec.twoPow 64 63 := by decide
      simp only [topBit, if_true, this, BitVec.getLsbD_twoPow]
      simp; omega

theorem crcL_shift (w : BitVec 64) (h : w.getLsbD 0 = false) : crcL (w >>> 1) = w := by
  unfold crcL
  have : (w >>> 1).msb = false := by simp
  rw [this]
  simp
  apply BitVec.eq_of_getLsbD_eq
  intro i hi
  rw [BitVec.getLsbD_shiftLeft, BitVec.getLsbD_ushiftRight]
  by_cases h0 : i = 0
  · subst h0; rw [h]; rfl
  · have e : 1 + (i - 1) = i := by omega
    have e1 : decide (i < 1) = false := by simp; omega
    rw [e, e1]; simp; omega

theorem feed_word (r : BitVec 64) (l : List Bool) (h : l.length ≤ 64) : feed r l = crcLn l.length (r ^^^ wordOf l) := by
  induction l generalizing r with
  | nil => simp [feed, wordOf, crcLn]
  | cons b l ih =>
    simp only [List.length_cons] at h
    rw [feed, ih _ (by omega), List.length_cons, crcLn, wordOf, ← BitVec.xor_assoc, crcL_xor (r ^^^ topBit b), crcL_shift _ (wordOf_low l 0 (by omega))]

theorem wordOf_eq_zero (l : List Bool) (h : l.length ≤ 64) (hz : wordOf l = 0#64) : ∀ b, b ∈ l → b = false := by
  induction l with
  | nil => simp
  | cons b l ih =>
    simp only [List.length_cons] at h
    rw [wordOf] at hz
    have hb : b = false := by
      have := congrArg (fun z : BitVec 64 => z.getLsbD 63) hz
      simp at this
      cases b
      · rfl
      · simp [topBit] at this
    subst hb
    have h0 : wordOf l = 0#64 := by
      have h1 : wordOf l >>> 1 = 0#64 := by simpa [topBit] using hz
      rw [← crcL_shift _ (wordOf_low l 0 (by omega)), h1, crcL_zero]
    intro c hc
    rcases List.mem_cons.1 hc with rfl | hc
    · rfl
    · exact ih (by omega) h0 c hc

/-- a run of wrong bits of at most 64, wherever: the register tells it -/
theorem burst (r : BitVec 64) (l m : List Bool) (a : Nat) (d : List Bool) (z : Nat) (hl : l.length = m.length) (hd : d.length ≤ 64)
    (hx : List.zipWith (· ^^ ·) l m = List.replicate a false ++ d ++ List.replicate z false) (h : feed r l = feed r m) : ∀ b, b ∈ d → b = false := by
  have h1 := feed_xor r r l m hl
  rw [h, BitVec.xor_self, BitVec.xor_self, hx, feed_append, feed_append, feed_false, feed_false, crcLn_zero, feed_word _ _ hd] at h1
  have h2 := crcLn_eq_zero _ (crcLn_eq_zero _ h1)
  rw [BitVec.zero_xor] at h2
  exact wordOf_eq_zero d hd h2

/-- the table's rows -/
def rowsL : List (BitVec 64) := [0x0000000000000000#64, 0x42f0e1eba9ea3693#64, 0x85e1c3d753d46d26#64, 0xc711223cfa3e5bb5#64, 0x493366450e42ecdf#64, 0x0bc387aea7a8da4c#64, 0xccd2a5925d9681f9#64, 0x8e224479f47cb76a#64, 0x9266cc8a1c85d9be#64, 0xd0962d61b56fef2d#64, 0x17870f5d4f51b498#64, 0x5577eeb6e6bb820b#64, 0xdb55aacf12c73561#64, 0x99a54b24bb2d03f2#64, 0x5eb4691841135847#64, 0x1c4488f3e8f96ed4#64]

theorem rows_four : ∀ n : Fin 16, crcLn 4 (BitVec.ofNat 64 n.val <<< 60) = rowsL[n.val] := by decide

end Larder
namespace Larder
theorem crcLn_shift (k : Nat) (x : BitVec 64) (h : ∀ i, 64 - k ≤ i → i < 64 → x.getLsbD i = false) (hk : k ≤ 64) : crcLn k x = x <<< k := by
  induction k generalizing x with
  | zero => simp [crcLn]
  | succ k ih =>
    have hm : x.msb = false := by rw [BitVec.msb_eq_getLsbD_last]; exact h 63 (by omega) (by omega)
    have e : crcL x = x <<< 1 := by unfold crcL; rw [hm]; simp
    rw [crcLn, e, ih (x <<< 1) _ (by omega)]
    · rw [← BitVec.shiftLeft_add, Nat.add_comm]
    · intro i h1 h2
      rw [BitVec.getLsbD_shiftLeft, h (i - 1) (by omega) (by omega)]; simp

theorem top_low (x : BitVec 64) : x = ((x >>> 60) <<< 60) ^^^ ((x <<< 4) >>> 4) := by
  apply BitVec.eq_of_getLsbD_eq
  intro i hi
  simp only [BitVec.getLsbD_xor, BitVec.getLsbD_shiftLeft, BitVec.getLsbD_ushiftRight]
  by_cases h : i < 60
  · have e : 4 + i - 4 = i := by omega
    have e2 : 4 + i < 64 := by omega
    simp [h, e, e2]
  · have e : 60 + (i - 60) = i := by omega
    have e2 : ¬ 4 + i < 64 := by omega
    simp [h, hi, e, e2]

theorem four (x : BitVec 64) : crcLn 4 x = (x <<< 4) ^^^ rowsL.getD (x >>> 60).toNat 0#64 := by
  have hlt : (x >>> 60).toNat < 16 := by
    rw [BitVec.toNat_ushiftRight, Nat.shiftRight_eq_div_pow]; have := x.isLt; omega
  have hr := rows_four ⟨(x >>> 60).toNat, hlt⟩
  have e0 : BitVec.ofNat 64 (x >>> 60).toNat = x >>> 60 := by rw [BitVec.ofNat_toNat]; simp
  simp only [e0] at hr
  have hl := crcLn_shift 4 ((x <<< 4) >>> 4) (by
    intro i h1 h2
    rw [BitVec.getLsbD_ushiftRight, BitVec.getLsbD_shiftLeft]
    have : ¬ 4 + i < 64 := by omega
    simp [this]) (by omega)
  have e4 : ((x <<< 4) >>> 4) <<< 4 = x <<< 4 := by
    apply BitVec.eq_of_getLsbD_eq
    intro i hi
    simp only [BitVec.getLsbD_shiftLeft, BitVec.getLsbD_ushiftRight]
    by_cases h : i < 4
    · simp [h]
    · have e : 4 + (i - 4) = i := by omega
      simp [h, hi, e]
  conv => lhs; rw [top_low x]
  rw [crcLn_xor, hr, hl, e4, BitVec.xor_comm]
  congr 1
  rw [List.getD_eq_getElem?_getD, List.getElem?_eq_getElem (by simpa [rowsL] using hlt)]; rfl

/-- the register over four bits, by the table -/
def nibStep (r : BitVec 64) (n : Nat) : BitVec 64 := (r <<< 4) ^^^ rowsL.getD ((r >>> 60).toNat ^^^ n) 0#64

theorem shl60 (n : Nat) (_h : n < 16) : (BitVec.ofNat 64 n <<< 60) <<< 4 = 0#64 := by
  rw [← BitVec.shiftLeft_add]; simp

theorem shr60 : ∀ n : Fin 16, (BitVec.ofNat 64 n.val <<< 60) >>> 60 = BitVec.ofNat 64 n.val := by decide

theorem nib_four (r : BitVec 64) (n : Nat) (h : n < 16) : crcLn 4 (r ^^^ BitVec.ofNat 64 n <<< 60) = nibStep r n := by
  rw [four, nibStep, BitVec.shiftLeft_xor_distrib, shl60 n h, BitVec.xor_zero, BitVec.ushiftRight_xor_distrib, shr60 ⟨n, h⟩, BitVec.toNat_xor]
  congr 3
  rw [BitVec.toNat_ofNat]; exact Nat.mod_eq_of_lt (by omega)

def nibBits (n : Nat) : List Bool := [n.testBit 3, n.testBit 2, n.testBit 1, n.testBit 0]
def byteBits (c : Nat) : List Bool := [c.testBit 7, c.testBit 6, c.testBit 5, c.testBit 4, c.testBit 3, c.testBit 2, c.testBit 1, c.testBit 0]

theorem nib_word : ∀ n : Fin 16, wordOf (nibBits n.val) = BitVec.ofNat 64 n.val <<< 60 := by decide

theorem feed_nib (r : BitVec 64) (n : Nat) (h : n < 16) : feed r (nibBits n) = nibStep r n := by
  rw [feed_word _ _ (by simp [nibBits]), nib_word ⟨n, h⟩]; exact nib_four r n h

theorem byte_nibs : ∀ c : Fin 256, byteBits c.val = nibBits (c.val / 16) ++ nibBits (c.val % 16) := by decide +kernel

theorem feed_byte (r : BitVec 64) (c : Nat) (h : c < 256) : feed r (byteBits c) = nibStep (nibStep r (c / 16)) (c % 16) := by
  rw [byte_nibs ⟨c, h⟩, feed_append]; simp only
  rw [feed_nib _ _ (by omega), feed_nib _ _ (by omega)]

def bitsOf (l : List Nat) : List Bool := l.flatMap byteBits
def sumOf (l : List Nat) : BitVec 64 := feed (BitVec.allOnes 64) (bitsOf l)

/-- eight bytes of a word, the highest first -/
def bigBytes (s : BitVec 64) : List Nat := [(s >>> 56).toNat % 256, (s >>> 48).toNat % 256, (s >>> 40).toNat % 256, (s >>> 32).toNat % 256, (s >>> 24).toNat % 256, (s >>> 16).toNat % 256, (s >>> 8).toNat % 256, (s >>> 0).toNat % 256]

theorem wordOf_bit (l : List Bool) (i : Nat) (hi : i < 64) (hl : l.length = 64) : (wordOf l).getLsbD i = l.getD (63 - i) false := by
  have key : ∀ (l : List Bool) (k : Nat), k < l.length → k < 64 → (wordOf l).getLsbD (63 - k) = l.getD k false := by
    intro l
    induction l with
    | nil => intro k h; simp at h
    | cons b l ih =>
      intro k h h64
      have e8 : (0x8000000000000000#64) = BitVec.twoPow 64 63 := by decide
      rw [wordOf, BitVec.getLsbD_xor, BitVec.getLsbD_ushiftRight]
      cases k with
      | zero =>
        have : (wordOf l).getLsbD (1 + (63 - 0)) = false := by apply BitVec.getLsbD_of_ge; omega
        rw [this, Bool.xor_false]
        cases b
        · simp [topBit]
        · simp [topBit]
      | succ k =>
        simp only [List.length_cons] at h
        have e : 1 + (63 - (k + 1)) = 63 - k := by omega
        rw [e, ih k (by omega) (by omega)]
        have : (topBit b).getLsbD (63 - (k + 1)) = false := by
          cases b
          · simp [topBit]
          · simp only [topBit, if_true, e8, BitVec.getLsbD_twoPow]; simp; omega
        rw [this, Bool.false_xor]; rfl
  have := key l (63 - i) (by omega) (by omega)
  rw [show 63 - (63 - i) = i from by omega] at this
  exact this

theorem big_bit (s : BitVec 64) (k j : Nat) (hj : j < 8) : ((s >>> k).toNat % 256).testBit j = s.getLsbD (k + j) := by
  rw [show 256 = 2 ^ 8 from rfl, Nat.testBit_mod_two_pow, BitVec.toNat_ushiftRight, Nat.testBit_shiftRight]
  simp [hj, BitVec.getLsbD]

theorem big_word (s : BitVec 64) : wordOf (bitsOf (bigBytes s)) = s := by
  apply BitVec.eq_of_getLsbD_eq
  intro i hi
  rw [wordOf_bit _ _ hi (by simp [bitsOf, bigBytes, byteBits])]
  have hb : bitsOf (bigBytes s) = (List.range 64).map (fun k => s.getLsbD (63 - k)) := by
    simp only [bitsOf, bigBytes, List.flatMap_cons, List.flatMap_nil, byteBits, big_bit _ _ _ (by omega : (7:Nat) < 8), big_bit _ _ _ (by omega : (6:Nat) < 8), big_bit _ _ _ (by omega : (5:Nat) < 8), big_bit _ _ _ (by omega : (4:Nat) < 8), big_bit _ _ _ (by omega : (3:Nat) < 8), big_bit _ _ _ (by omega : (2:Nat) < 8), big_bit _ _ _ (by omega : (1:Nat) < 8), big_bit _ _ _ (by omega : (0:Nat) < 8)]
    rfl
  rw [hb]
  rw [List.getD_eq_getElem?_getD, List.getElem?_map, List.getElem?_range (by omega)]
  simp only [Option.map_some, Option.getD_some]
  rw [show 63 - (63 - i) = i from by omega]

theorem sum_behind (l : List Nat) : sumOf (l ++ bigBytes (sumOf l)) = 0#64 := by
  have hl : (bitsOf (bigBytes (sumOf l))).length = 64 := by simp [bitsOf, bigBytes, byteBits]
  unfold sumOf at *
  rw [bitsOf, List.flatMap_append, feed_append]
  show feed _ (bitsOf _) = _
  rw [feed_word _ _ (by omega)]
  rw [big_word]
  show crcLn _ (feed (BitVec.allOnes 64) (bitsOf l) ^^^ _) = _
  rw [BitVec.xor_self, crcLn_zero]
end Larder

namespace Larder
def nibN (r n : Nat) : Nat := (r * 16 % 18446744073709551616) ^^^ (rowsL.getD ((r / 1152921504606846976) ^^^ n) 0#64).toNat

theorem nibStep_toNat (r : BitVec 64) (n : Nat) : (nibStep r n).toNat = nibN r.toNat n := by
  unfold nibStep nibN
  rw [BitVec.toNat_xor, BitVec.toNat_shiftLeft, BitVec.toNat_ushiftRight, Nat.shiftLeft_eq, Nat.shiftRight_eq_div_pow]

theorem nibN_lt (r n : Nat) : nibN r n < 18446744073709551616 := by
  unfold nibN
  exact Nat.xor_lt_two_pow (n := 64) (Nat.mod_lt _ (by decide)) (BitVec.isLt _)

theorem xor16 {a b : Nat} (ha : a < 16) (hb : b < 16) : a ^^^ b < 16 := Nat.xor_lt_two_pow (n := 4) ha hb

/-- the sum's register behind the first k bytes -/
def sumK (l : List Nat) (k : Nat) : Nat := (sumOf (l.take k)).toNat
theorem sumK_lt (l : List Nat) (k : Nat) : sumK l k < 18446744073709551616 := BitVec.isLt _
theorem sumK_zero (l : List Nat) : sumK l 0 = 18446744073709551615 := by
  simp [sumK, sumOf, bitsOf, feed]

theorem sumK_succ (l : List Nat) (k : Nat) (hk : k < l.length) (hc : l.getD k 0 < 256) : sumK l (k + 1) = nibN (nibN (sumK l k) (l.getD k 0 / 16)) (l.getD k 0 % 16) := by
  have e : l.take (k + 1) = l.take k ++ [l.getD k 0] := by
    rw [List.take_succ_eq_append_getElem hk, List.getD_eq_getElem?_getD, List.getElem?_eq_getElem hk]; rfl
  unfold sumK
  rw [e]
  unfold sumOf bitsOf
  rw [List.flatMap_append, feed_append]
  simp only [List.flatMap_cons, List.flatMap_nil, List.append_nil]
  rw [feed_byte _ _ hc, nibStep_toNat, nibStep_toNat]

theorem sumK_all (l : List Nat) : sumK l l.length = (sumOf l).toNat := by unfold sumK; rw [List.take_length]
end Larder
