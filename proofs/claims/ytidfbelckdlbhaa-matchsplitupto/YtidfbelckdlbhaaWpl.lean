/- Patterns that are written piece by piece, in plain words. -/
import Derived.Test.YtidfbelckdlbhaaQpl
namespace Larder
/-- a member of a class -/
structure Mb where
  lo : Nat
  hi : Nat
  rng : Bool
  pl : Bool
/-- a piece: a star, any byte, a byte, a class -/
structure Pcd where
  d : Int
  b : Nat
  nt : Bool
  ms : List Mb
def spellL (b : Nat) (pl : Bool) : List Nat := if pl = true ∧ b ≠ 92 ∧ b ≠ 93 ∧ b ≠ 45 ∧ b ≠ 94 then [b] else [92, b]
def memL (m : Mb) : List Nat := spellL m.lo m.pl ++ (if m.rng = true then 45 :: spellL m.hi m.pl else [])
def memsL (ms : List Mb) : List Nat := ms.flatMap memL
def writeL (x : Pcd) : List Nat := if x.d = 0 then [42] else if x.d = 1 then [63] else if x.d = 2 then [92, x.b] else 91 :: ((if x.nt = true then [94] else []) ++ (memsL x.ms ++ [93]))
def patL (xs : List Pcd) : List Nat := xs.flatMap writeL
def hiOf (m : Mb) : Nat := if m.rng = true then m.hi else m.lo
def fitsL (ms : List Mb) (c : Nat) : Bool := ms.any (fun m => between m.lo (hiOf m) c)
def pieceL (x : Pcd) : Option (Nat → Bool) := if x.d = 0 then none else if x.d = 1 then some (fun _ => true) else if x.d = 2 then some (between x.b x.b) else some (fun c => fitsL x.ms c != x.nt)

theorem spell_head (b : Nat) (pl : Bool) : ∃ h r, spellL b pl = h :: r ∧ h ≠ 93 ∧ h ≠ 94 ∧ h ≠ 45 := by
  unfold spellL
  split
  · rename_i h; exact ⟨b, [], rfl, h.2.2.1, h.2.2.2.2, h.2.2.2.1⟩
  · exact ⟨92, [b], rfl, by decide, by decide, by decide⟩
theorem spell_len (b : Nat) (pl : Bool) : 1 ≤ (spellL b pl).length ∧ (spellL b pl).length ≤ 2 := by
  unfold spellL; split <;> simp
theorem byte_spell (A B : List Nat) (b : Nat) (pl : Bool) : byteAt (A ++ (spellL b pl ++ B)) A.length = (b, A.length + (spellL b pl).length) := by
  unfold spellL
  split
  · rename_i h
    unfold byteAt
    rw [List.singleton_append, getD_mid, if_neg (fun h2 => h.2.1 h2.1)]
    rfl
  · unfold byteAt
    rw [List.cons_append, List.singleton_append, getD_mid, getD_mid2, if_pos ⟨rfl, by simp⟩]
    rfl
theorem mem_at (A B : List Nat) (m : Mb) (g : Nat) (hg : g ≠ 45) : memAt (A ++ (memL m ++ g :: B)) A.length = (m.lo, hiOf m, A.length + (memL m).length) := by
  unfold memL hiOf
  by_cases hr : m.rng = true
  · rw [if_pos hr, if_pos hr]
    have e1 : A ++ ((spellL m.lo m.pl ++ 45 :: spellL m.hi m.pl) ++ g :: B) = A ++ (spellL m.lo m.pl ++ (45 :: (spellL m.hi m.pl ++ g :: B))) := by simp
    have e2 : A ++ (spellL m.lo m.pl ++ (45 :: (spellL m.hi m.pl ++ g :: B))) = (A ++ spellL m.lo m.pl) ++ 45 :: (spellL m.hi m.pl ++ g :: B) := by simp
    have e3 : (A ++ spellL m.lo m.pl) ++ 45 :: (spellL m.hi m.pl ++ g :: B) = (A ++ spellL m.lo m.pl ++ [45]) ++ (spellL m.hi m.pl ++ g :: B) := by simp
    obtain ⟨h, r, hh, h93, _, _⟩ := spell_head m.hi m.pl
    have b1 := byte_spell A (45 :: (spellL m.hi m.pl ++ g :: B)) m.lo m.pl
    have b2 := byte_spell (A ++ spellL m.lo m.pl ++ [45]) (g :: B) m.hi m.pl
    have c1 := getD_mid (A ++ spellL m.lo m.pl) (spellL m.hi m.pl ++ g :: B) 45
    have c2 : ((A ++ spellL m.lo m.pl) ++ 45 :: (spellL m.hi m.pl ++ g :: B)).getD ((A ++ spellL m.lo m.pl).length + 1) 0 = h := by
      rw [hh, List.cons_append]; exact getD_mid2 _ _ _ _
    rw [e1]
    unfold memAt
    rw [b1]
    dsimp only
    rw [e2]
    rw [List.length_append] at c1 c2
    rw [c1, c2, if_pos ⟨by simp; omega, rfl, h93⟩, e3]
    have hL : (A ++ spellL m.lo m.pl ++ [45] : List Nat).length = A.length + (spellL m.lo m.pl).length + 1 := by simp; omega
    rw [hL] at b2
    rw [b2]
    simp
    omega
  · rw [if_neg hr, if_neg hr, List.append_nil]
    have b1 := byte_spell A (g :: B) m.lo m.pl
    have c1 := getD_mid (A ++ spellL m.lo m.pl) B g
    rw [List.length_append, List.append_assoc] at c1
    unfold memAt
    rw [b1]
    dsimp only
    rw [c1, if_neg (fun h => hg h.2.1)]
theorem mems_head (ms : List Mb) (B : List Nat) : ∃ g r, memsL ms ++ 93 :: B = g :: r ∧ g ≠ 45 ∧ g ≠ 94 ∧ (ms = [] → g = 93) := by
  cases ms with
  | nil => exact ⟨93, B, rfl, by decide, by decide, fun _ => rfl⟩
  | cons m ms =>
    obtain ⟨h, r, hh, _, h94, h45⟩ := spell_head m.lo m.pl
    refine ⟨h, r ++ (if m.rng = true then 45 :: spellL m.hi m.pl else []) ++ memsL ms ++ 93 :: B, ?_, h45, h94, fun e => by cases e⟩
    show (memL m ++ memsL ms) ++ 93 :: B = _
    unfold memL
    rw [hh]
    simp only [List.cons_append]
theorem mem_pos (m : Mb) : ∃ h r, memL m = h :: r ∧ h ≠ 93 := by
  obtain ⟨h, r, hh, h93, _, _⟩ := spell_head m.lo m.pl
  exact ⟨h, r ++ (if m.rng = true then 45 :: spellL m.hi m.pl else []), by unfold memL; rw [hh]; rfl, h93⟩
theorem mems_at : ∀ (ms : List Mb) (A B : List Nat) (S : Nat → Bool) (n : Nat), ms.length ≤ n → memsK (A ++ (memsL ms ++ 93 :: B)) n A.length S = (fun c => S c || fitsL ms c, A.length + (memsL ms).length)
  | [], A, B, S, n, _ => by
    show memsK (A ++ 93 :: B) n A.length S = _
    rw [memsK_done _ _ _ _ (fun h => h.2 (getD_mid A B 93))]
    simp [memsL, fitsL]
  | m :: ms, A, B, S, n, hn => by
    obtain ⟨n, rfl⟩ : ∃ k, n = k + 1 := ⟨n - 1, by simp at hn; omega⟩
    obtain ⟨h, r, hh, h93⟩ := mem_pos m
    obtain ⟨g, r2, hg, h45, _, _⟩ := mems_head ms B
    have e : A ++ (memsL (m :: ms) ++ 93 :: B) = A ++ (memL m ++ (memsL ms ++ 93 :: B)) := by simp [memsL]
    have hp : (A ++ (memL m ++ (memsL ms ++ 93 :: B))).getD A.length 0 = h := by rw [hh, List.cons_append]; exact getD_mid _ _ _
    have ma := mem_at A r2 m g h45
    rw [← hg] at ma
    rw [e, memsK_step _ _ _ _ (by rw [hh]; simp) (by rw [hp]; exact h93), ma]
    dsimp only
    have ih := mems_at ms (A ++ memL m) B (fun c => S c || between m.lo (hiOf m) c) n (by simp at hn; omega)
    rw [List.append_assoc, List.length_append] at ih
    rw [ih]
    refine Prod.ext (funext fun c => ?_) ?_
    · simp only [fitsL, List.any_cons, Bool.or_assoc]
    · simp only [memsL, List.flatMap_cons, List.length_append]; omega
theorem mems_len (ms : List Mb) : ms.length ≤ (memsL ms).length := by
  induction ms with
  | nil => simp
  | cons m ms ih =>
    obtain ⟨h, r, hh, _⟩ := mem_pos m
    simp only [memsL, List.flatMap_cons, List.length_append, List.length_cons] at ih ⊢
    rw [hh]
    simp only [List.length_cons]
    omega
theorem piece_at (A B : List Nat) (x : Pcd) : pieceAt (A ++ (writeL x ++ B)) A.length = (pieceL x, A.length + (writeL x).length) := by
  unfold writeL pieceL
  by_cases h0 : x.d = 0
  · rw [if_pos h0, if_pos h0, List.singleton_append]; unfold pieceAt; rw [getD_mid, if_pos rfl]; rfl
  rw [if_neg h0, if_neg h0]
  by_cases h1 : x.d = 1
  · rw [if_pos h1, if_pos h1, List.singleton_append]; unfold pieceAt; rw [getD_mid, if_neg (by decide), if_neg (by decide), if_pos rfl]; rfl
  rw [if_neg h1, if_neg h1]
  by_cases h2 : x.d = 2
  · rw [if_pos h2, if_pos h2, List.cons_append, List.singleton_append]
    have hb : byteAt (A ++ 92 :: x.b :: B) A.length = (x.b, A.length + 2) := by
      unfold byteAt
      rw [getD_mid, getD_mid2, if_pos ⟨rfl, by simp⟩]
    unfold pieceAt
    rw [getD_mid, if_neg (by decide), if_neg (by decide), if_neg (by decide), hb]
    rfl
  rw [if_neg h2, if_neg h2]
  unfold pieceAt
  rw [List.cons_append, getD_mid, if_neg (by decide), if_pos rfl]
  have hml := mems_len x.ms
  cases hn : x.nt with
  | true =>
    rw [if_pos rfl]
    have e : A ++ 91 :: (([94] ++ (memsL x.ms ++ [93])) ++ B) = (A ++ [91, 94]) ++ (memsL x.ms ++ 93 :: B) := by simp
    have hc : caret (A ++ 91 :: (([94] ++ (memsL x.ms ++ [93])) ++ B)) (A.length + 1) = true := by
      refine decide_eq_true ⟨by simp, ?_⟩
      rw [List.append_assoc, List.singleton_append]
      exact getD_mid2 A _ 91 94
    have hk := mems_at x.ms (A ++ [91, 94]) B (fun _ => false) (A ++ 91 :: (([94] ++ (memsL x.ms ++ [93])) ++ B)).length (by simp; omega)
    rw [← e] at hk
    have hL : (A ++ [91, 94] : List Nat).length = A.length + 1 + 1 := by simp
    rw [hL] at hk
    unfold clsAt
    rw [hc, if_pos rfl, hk]
    refine Prod.ext ?_ ?_
    · simp only [Bool.false_or]
      congr 1
      funext c
      cases fitsL x.ms c <;> rfl
    · simp
      omega
  | false =>
    rw [if_neg (by decide), List.nil_append]
    have e : A ++ 91 :: ((memsL x.ms ++ [93]) ++ B) = (A ++ [91]) ++ (memsL x.ms ++ 93 :: B) := by simp
    obtain ⟨g, r, hg, _, h94, _⟩ := mems_head x.ms B
    have hc : caret (A ++ 91 :: ((memsL x.ms ++ [93]) ++ B)) (A.length + 1) = false := by
      refine decide_eq_false (fun h => ?_)
      have h2 := h.2
      rw [show (memsL x.ms ++ [93]) ++ B = memsL x.ms ++ 93 :: B by simp, hg, getD_mid2] at h2
      exact h94 h2
    have hk := mems_at x.ms (A ++ [91]) B (fun _ => false) (A ++ 91 :: ((memsL x.ms ++ [93]) ++ B)).length (by simp; omega)
    rw [← e] at hk
    have hL : (A ++ [91] : List Nat).length = A.length + 1 := by simp
    rw [hL] at hk
    unfold clsAt
    rw [hc, if_neg (by decide), hk]
    refine Prod.ext ?_ ?_
    · simp only [Bool.false_or]
      congr 1
      funext c
      cases fitsL x.ms c <;> rfl
    · simp
      omega
theorem write_len (x : Pcd) : 1 ≤ (writeL x).length := by
  unfold writeL
  repeat' split
  all_goals simp
theorem pk_write : ∀ (xs : List Pcd) (A B : List Nat) (n : Nat), parseK (A ++ (patL xs ++ B)) (n + xs.length) A.length = xs.map pieceL ++ parseK (A ++ (patL xs ++ B)) n (A.length + (patL xs).length)
  | [], A, B, n => by simp [patL]
  | x :: xs, A, B, n => by
    have e : A ++ (patL (x :: xs) ++ B) = A ++ (writeL x ++ (patL xs ++ B)) := by simp [patL]
    have hw := write_len x
    rw [e, List.length_cons, ← Nat.add_assoc, parseK, if_pos (by simp only [List.length_append]; omega), piece_at]
    dsimp only
    have ih := pk_write xs (A ++ writeL x) B n
    rw [List.append_assoc, List.length_append] at ih
    rw [ih, List.map_cons, List.cons_append]
    congr 2
    simp only [patL, List.flatMap_cons, List.length_append]
    congr 1
    omega
theorem pat_len (xs : List Pcd) : xs.length ≤ (patL xs).length := by
  induction xs with
  | nil => simp
  | cons x xs ih =>
    have hw := write_len x
    simp only [patL, List.flatMap_cons, List.length_append, List.length_cons] at ih ⊢
    omega
theorem parse_pat (xs : List Pcd) : parse (patL xs) = xs.map pieceL := by
  unfold parse
  have hl := pat_len xs
  have h := pk_write xs [] [] ((patL xs).length - xs.length)
  rw [List.nil_append, List.append_nil, List.length_nil, Nat.zero_add, show (patL xs).length - xs.length + xs.length = (patL xs).length by omega] at h
  rw [h, pk_end _ _ _ (Nat.le_refl _), List.append_nil]
theorem meets_one (f : Nat → Bool) (c : Nat) : Meets [some f] [c] ↔ f c = true :=
  ⟨fun ⟨_, _, e, h, _⟩ => by cases e; exact h, fun h => ⟨c, [], rfl, h, rfl⟩⟩
theorem meets_one_nil (f : Nat → Bool) : ¬ Meets [some f] [] := fun ⟨_, _, e, _, _⟩ => by cases e
theorem meets_one_two (f : Nat → Bool) (a b : Nat) : ¬ Meets [some f] [a, b] := fun ⟨_, v, e, _, h⟩ => by
  cases e
  exact absurd (show [b] = [] from h) (by simp)
theorem meets_cut (L M : List (Option (Nat → Bool))) (t : List Nat) : Meets (L ++ M) t ↔ ∃ i, i ≤ t.length ∧ Meets L (t.take i) ∧ Meets M (t.drop i) := by
  rw [meets_append]
  constructor
  · rintro ⟨u, v, rfl, h1, h2⟩
    exact ⟨u.length, by simp, by simpa using h1, by simpa using h2⟩
  · rintro ⟨i, hi, h1, h2⟩
    exact ⟨t.take i, t.drop i, (List.take_append_drop i t).symm, h1, h2⟩
theorem meets_star_k (M : List (Option (Nat → Bool))) (t : List Nat) : Meets (none :: M) t ↔ ∃ k, k ≤ t.length ∧ Meets M (t.drop k) := by
  constructor
  · rintro ⟨u, v, rfl, h⟩
    exact ⟨u.length, by simp, by simpa using h⟩
  · rintro ⟨k, hk, h⟩
    exact ⟨t.take k, t.drop k, (List.take_append_drop k t).symm, h⟩
theorem meets_gap (L M : List (Option (Nat → Bool))) (t : List Nat) : Meets (L ++ none :: M) t ↔ ∃ i, i ≤ t.length ∧ Meets L (t.take i) ∧ ∃ k, i ≤ k ∧ k ≤ t.length ∧ Meets M (t.drop k) := by
  rw [meets_cut]
  refine exists_congr fun i => and_congr_right fun hi => and_congr_right fun _ => ?_
  rw [meets_star_k]
  constructor
  · rintro ⟨k, hk, h⟩
    rw [List.length_drop] at hk
    rw [List.drop_drop] at h
    exact ⟨i + k, by omega, by omega, h⟩
  · rintro ⟨k, h1, h2, h⟩
    refine ⟨k - i, by rw [List.length_drop]; omega, ?_⟩
    rw [List.drop_drop, show i + (k - i) = k by omega]
    exact h
theorem meets_stars (L M : List (Option (Nat → Bool))) (t : List Nat) : Meets (L ++ none :: none :: none :: M) t ↔ Meets (L ++ none :: M) t := by
  have h1 : ∀ (N : List (Option (Nat → Bool))) (u : List Nat), Meets (none :: none :: N) u ↔ Meets (none :: N) u := fun N u => by
    rw [meets_star_k]
    constructor
    · rintro ⟨k, hk, h⟩
      exact star_drop k h
    · intro h
      exact ⟨0, Nat.zero_le _, by simpa using h⟩
  rw [meets_append, meets_append]
  refine exists_congr fun u => exists_congr fun v => and_congr_right fun _ => and_congr_right fun _ => ?_
  rw [h1, h1]
end Larder
