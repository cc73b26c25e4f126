/- Plain: records, and how they are read. -/
import Derived.Test.YtljeedgnjgeopaaTurnMath
namespace Larder
set_option linter.unusedVariables false
set_option linter.unusedSimpArgs false
/-- a number in k bytes, the highest first -/
def bigN (k n : Nat) : List Nat := (List.range k).map fun i => n / 2 ^ (8 * (k - 1 - i)) % 256
theorem bigN_len (k n : Nat) : (bigN k n).length = k := by simp [bigN]
theorem bigN_succ (k n : Nat) : bigN (k + 1) n = bigN k (n / 256) ++ [n % 256] := by
  unfold bigN
  rw [List.range_succ, List.map_append]
  congr 1
  · apply List.map_congr_left
    intro i hi
    rw [List.mem_range] at hi
    rw [Nat.div_div_eq_div_mul, show (256 : Nat) = 2 ^ 8 from rfl, ← Nat.pow_add]
    congr 3
    omega
  · simp
theorem bigN_small (k n : Nat) : ∀ c ∈ bigN k n, c < 256 := fun c hc => by
  obtain ⟨i, -, rfl⟩ := List.mem_map.1 hc
  exact Nat.mod_lt _ (by decide)
/-- bytes as a number -/
def ofBig (l : List Nat) : Nat := l.foldl (fun a b => a * 256 + b) 0
theorem ofBig_snoc (l : List Nat) (c : Nat) : ofBig (l ++ [c]) = ofBig l * 256 + c := by simp [ofBig]
theorem ofBig_bigN : ∀ (k n : Nat), n < 256 ^ k → ofBig (bigN k n) = n
  | 0, n, h => by simp at h; subst h; rfl
  | k + 1, n, h => by
    rw [bigN_succ, ofBig_snoc, ofBig_bigN k (n / 256) (by rw [Nat.div_lt_iff_lt_mul (by decide)]; rw [Nat.pow_succ] at h; exact h)]
    omega
theorem bigBytes_big (s : BitVec 64) : bigBytes s = bigN 8 s.toNat := by
  have e : bigN 8 s.toNat = [s.toNat / 2 ^ 56 % 256, s.toNat / 2 ^ 48 % 256, s.toNat / 2 ^ 40 % 256, s.toNat / 2 ^ 32 % 256, s.toNat / 2 ^ 24 % 256, s.toNat / 2 ^ 16 % 256, s.toNat / 2 ^ 8 % 256, s.toNat / 2 ^ 0 % 256] := rfl
  rw [e]
  unfold bigBytes
  simp only [BitVec.toNat_ushiftRight, Nat.shiftRight_eq_div_pow]
/-- a command, an entry -/
abbrev ActP := Nat × List (List Nat)
structure EntP where
  seq : Nat
  now : Nat
  group : List ActP
def encT (t : List Nat) : List Nat := bigN 4 t.length ++ t
def encA (a : ActP) : List Nat := bigN 1 a.1 ++ (bigN 4 a.2.length ++ a.2.flatMap encT)
def body (e : EntP) : List Nat := bigN 8 e.seq ++ (bigN 8 e.now ++ (bigN 4 e.group.length ++ e.group.flatMap encA))
def headB (b : List Nat) : List Nat := 170 :: bigN 8 b.length
def frame (b : List Nat) : List Nat := headB b ++ (bigBytes (sumOf (headB b)) ++ (b ++ (bigBytes (sumOf b) ++ [85])))
def recE (e : EntP) : List Nat := frame (body e)
structure OkT (t : List Nat) : Prop where
  len : t.length ≤ 4096
  small : ∀ c ∈ t, c < 256
structure OkA (a : ActP) : Prop where
  db : a.1 < 4
  some : a.2 ≠ []
  len : a.2.length ≤ 128
  each : ∀ t ∈ a.2, OkT t
structure OkE (e : EntP) : Prop where
  seq : 1 ≤ e.seq ∧ e.seq < 2 ^ 63
  now : e.now ≤ 4503599627370496
  some : e.group ≠ []
  len : e.group.length ≤ 64
  each : ∀ a ∈ e.group, OkA a
theorem headB_len (b : List Nat) : (headB b).length = 9 := by simp [headB, bigN_len]
theorem bigBytes_len (s : BitVec 64) : (bigBytes s).length = 8 := rfl
theorem frame_len (b : List Nat) : (frame b).length = b.length + 26 := by
  unfold frame
  simp only [List.length_append, headB_len, bigBytes_len, List.length_cons, List.length_nil]
  omega
/-- reading -/
def rdN (k : Nat) (l : List Nat) : Option (Nat × List Nat) := if k ≤ l.length then some (ofBig (l.take k), l.drop k) else none
def rdT (l : List Nat) : Option (List Nat × List Nat) :=
  match rdN 4 l with
  | none => none
  | some (n, r) => if n ≤ 4096 ∧ n ≤ r.length then some (r.take n, r.drop n) else none
def rdL {α : Type} (f : List Nat → Option (α × List Nat)) : Nat → List Nat → Option (List α × List Nat)
  | 0, l => some ([], l)
  | n + 1, l => match rdL f n l with
    | none => none
    | some (xs, r) => match f r with
      | none => none
      | some (x, r') => some (xs ++ [x], r')
def rdA (l : List Nat) : Option (ActP × List Nat) :=
  match rdN 1 l with
  | none => none
  | some (d, r) => match rdN 4 r with
    | none => none
    | some (n, r2) => match rdL rdT n r2 with
      | none => none
      | some (xs, r3) => some ((d, xs), r3)
def rdE (l : List Nat) : Option (EntP × List Nat) :=
  match rdN 8 l with
  | none => none
  | some (s, r) => match rdN 8 r with
    | none => none
    | some (w, r2) => match rdN 4 r2 with
      | none => none
      | some (n, r3) => match rdL rdA n r3 with
        | none => none
        | some (g, r4) => some (⟨s, w, g⟩, r4)
theorem rdN_big (k n : Nat) (r : List Nat) (h : n < 256 ^ k) : rdN k (bigN k n ++ r) = some (n, r) := by
  unfold rdN
  rw [if_pos (by rw [List.length_append, bigN_len]; omega)]
  have e : (bigN k n).length = k := bigN_len k n
  rw [List.take_append_of_le_length (by omega), List.drop_append_of_le_length (by omega), List.take_of_length_le (by omega), List.drop_of_length_le (by omega), ofBig_bigN k n h]
  rfl
theorem rdT_enc {t r : List Nat} (h : OkT t) : rdT (encT t ++ r) = some (t, r) := by
  unfold rdT encT
  have hl := h.len
  rw [List.append_assoc, rdN_big 4 _ _ (Nat.lt_of_le_of_lt hl (by decide))]
  dsimp only
  rw [if_pos ⟨hl, by rw [List.length_append]; omega⟩, List.take_left, List.drop_left]
theorem rdL_enc {α : Type} {f : List Nat → Option (α × List Nat)} {enc : α → List Nat} {P : α → Prop} (hf : ∀ x r, P x → f (enc x ++ r) = some (x, r)) : ∀ (xs ys : List α) (r : List Nat), (∀ x ∈ xs, P x) → rdL f xs.length (xs.flatMap enc ++ (ys.flatMap enc ++ r)) = some (xs, ys.flatMap enc ++ r) := by
  intro xs
  induction h : xs.length generalizing xs with
  | zero =>
    intro ys r _
    obtain rfl := List.length_eq_zero_iff.1 h
    rfl
  | succ n ih =>
    intro ys r hP
    obtain ⟨zs, z, rfl⟩ : ∃ zs z, xs = zs ++ [z] := ⟨xs.dropLast, xs.getLast (by intro e; simp [e] at h), (List.dropLast_concat_getLast _).symm⟩
    have hn : zs.length = n := by simpa using h
    have := ih zs hn (z :: ys) r (fun x hx => hP x (List.mem_append_left _ hx))
    unfold rdL
    rw [List.flatMap_append, List.flatMap_singleton, List.append_assoc, ← List.append_assoc (enc z), show enc z ++ ys.flatMap enc ++ r = (z :: ys).flatMap enc ++ r from by simp, this]
    dsimp only
    rw [List.flatMap_cons, List.append_assoc, hf z _ (hP z (by simp))]
theorem rdL_enc' {α : Type} {f : List Nat → Option (α × List Nat)} {enc : α → List Nat} {P : α → Prop} (hf : ∀ x r, P x → f (enc x ++ r) = some (x, r)) (xs : List α) (r : List Nat) (h : ∀ x ∈ xs, P x) : rdL f xs.length (xs.flatMap enc ++ r) = some (xs, r) := by
  have := rdL_enc hf xs [] r h
  simpa using this
theorem rdA_enc {a : ActP} {r : List Nat} (h : OkA a) : rdA (encA a ++ r) = some (a, r) := by
  unfold rdA encA
  rw [List.append_assoc, rdN_big 1 _ _ (Nat.lt_trans h.db (by decide))]
  dsimp only
  rw [List.append_assoc, rdN_big 4 _ _ (Nat.lt_of_le_of_lt h.len (by decide))]
  dsimp only
  rw [rdL_enc' (P := OkT) (fun x r hx => rdT_enc hx) a.2 r h.each]
theorem rdE_body {e : EntP} {r : List Nat} (h : OkE e) : rdE (body e ++ r) = some (e, r) := by
  unfold rdE body
  rw [List.append_assoc, rdN_big 8 _ _ (Nat.lt_trans h.seq.2 (by decide))]
  dsimp only
  rw [List.append_assoc, rdN_big 8 _ _ (Nat.lt_of_le_of_lt h.now (by decide))]
  dsimp only
  rw [List.append_assoc, rdN_big 4 _ _ (Nat.lt_of_le_of_lt h.len (by decide))]
  dsimp only
  rw [rdL_enc' (P := OkA) (fun x r hx => rdA_enc hx) e.group r h.each]
theorem recE_body (e : EntP) (r : List Nat) : (recE e ++ r).drop 17 = body e ++ (bigBytes (sumOf (body e)) ++ [85] ++ r) := by
  unfold recE frame
  have h9 := headB_len (body e)
  have h8 := bigBytes_len (sumOf (headB (body e)))
  rw [List.append_assoc, List.drop_append, h9, List.drop_of_length_le (by omega), List.nil_append, List.append_assoc, List.drop_append, h8, List.drop_of_length_le (by omega), List.nil_append]
  simp [List.append_assoc]
/-- an entry has one record, and bytes begin with one record at most -/
theorem rec_one {e e' : EntP} {b : List Nat} (h : OkE e) (h' : OkE e') (p : recE e <+: b) (p' : recE e' <+: b) : e = e' := by
  obtain ⟨r, rfl⟩ := p
  obtain ⟨r', hr⟩ := p'
  have h1 := recE_body e r
  have h2 := recE_body e' r'
  rw [hr, h1] at h2
  have h3 := congrArg rdE h2
  rw [rdE_body h, rdE_body h'] at h3
  exact (Prod.mk.inj (Option.some.inj h3)).1
end Larder
