/- MatchSplit, in plain words. -/
import Derived.Test.YtidfbelckdlbhaaWpl
namespace Larder
def starP : Pcd := ⟨0, 0, false, []⟩
theorem pat_append (xs zs : List Pcd) : patL (xs ++ zs) = patL xs ++ patL zs := by simp [patL]
theorem parse_pair (xs zs : List Pcd) : parse (patL xs ++ patL zs) = parse (patL xs) ++ parse (patL zs) := by
  rw [← pat_append, parse_pat, parse_pat, parse_pat, List.map_append]
theorem pat_star (zs : List Pcd) : patL (starP :: zs) = 42 :: patL zs := by simp [patL, starP, writeL]
theorem parse_star1 (xs zs : List Pcd) : parse (patL xs ++ [42] ++ patL zs) = parse (patL xs) ++ none :: parse (patL zs) := by
  have e : patL xs ++ [42] ++ patL zs = patL (xs ++ starP :: zs) := by rw [pat_append, pat_star]; simp
  rw [e, parse_pat, parse_pat, parse_pat, List.map_append, List.map_cons]
  rfl
theorem parse_star3 (xs zs : List Pcd) : parse (patL xs ++ [42, 42, 42] ++ patL zs) = parse (patL xs) ++ none :: none :: none :: parse (patL zs) := by
  have e : patL xs ++ [42, 42, 42] ++ patL zs = patL (xs ++ starP :: starP :: starP :: zs) := by rw [pat_append, pat_star, pat_star, pat_star]; simp
  rw [e, parse_pat, parse_pat, parse_pat, List.map_append, List.map_cons, List.map_cons, List.map_cons]
  rfl
/-- the first loop, i rounds done -/
def canB (pm qm : Nat → Bool) (i : Nat) : Bool := (List.range i).any (fun j => pm j && qm j)
theorem canB_succ (pm qm : Nat → Bool) (i : Nat) : canB pm qm (i + 1) = (canB pm qm i || (pm i && qm i)) := by
  unfold canB; rw [List.range_succ, List.any_append]; simp
/-- the inner loop, from i on, k rounds done -/
def gapK (qm : Nat → Bool) (i k : Nat) : Bool := (List.range k).any (fun j => qm (i + j))
theorem gapK_succ (qm : Nat → Bool) (i k : Nat) : gapK qm i (k + 1) = (gapK qm i k || qm (i + k)) := by
  unfold gapK; rw [List.range_succ, List.any_append]; simp
/-- the second loop, i rounds done, over a text of n bytes -/
def gapB (pm qm : Nat → Bool) (n i : Nat) : Bool := (List.range i).any (fun j => pm j && gapK qm j (n + 1 - j))
theorem gapB_succ (pm qm : Nat → Bool) (n i : Nat) : gapB pm qm n (i + 1) = (gapB pm qm n i || (pm i && gapK qm i (n + 1 - i))) := by
  unfold gapB; rw [List.range_succ, List.any_append]; simp
theorem can_meets (L M : List (Option (Nat → Bool))) (t : List Nat) (pm qm : Nat → Bool) (hp : ∀ i, pm i = true ↔ Meets L (t.take i)) (hq : ∀ i, qm i = true ↔ Meets M (t.drop i)) : canB pm qm (t.length + 1) = true ↔ Meets (L ++ M) t := by
  rw [meets_cut]
  unfold canB
  rw [List.any_eq_true]
  constructor
  · rintro ⟨i, hi, h⟩
    rw [Bool.and_eq_true] at h
    exact ⟨i, by rw [List.mem_range] at hi; omega, (hp i).1 h.1, (hq i).1 h.2⟩
  · rintro ⟨i, hi, h1, h2⟩
    exact ⟨i, List.mem_range.2 (by omega), by rw [(hp i).2 h1, (hq i).2 h2]; rfl⟩
theorem gap_meets (L M : List (Option (Nat → Bool))) (t : List Nat) (pm qm : Nat → Bool) (hp : ∀ i, pm i = true ↔ Meets L (t.take i)) (hq : ∀ i, qm i = true ↔ Meets M (t.drop i)) : gapB pm qm t.length (t.length + 1) = true ↔ Meets (L ++ none :: M) t := by
  rw [meets_gap]
  unfold gapB gapK
  rw [List.any_eq_true]
  constructor
  · rintro ⟨i, hi, h⟩
    rw [Bool.and_eq_true, List.any_eq_true] at h
    obtain ⟨h1, j, hj, h2⟩ := h
    rw [List.mem_range] at hi hj
    exact ⟨i, by omega, (hp i).1 h1, i + j, by omega, by omega, (hq _).1 h2⟩
  · rintro ⟨i, hi, h1, k, hk, hk2, h2⟩
    refine ⟨i, List.mem_range.2 (by omega), ?_⟩
    rw [Bool.and_eq_true, List.any_eq_true]
    refine ⟨(hp i).2 h1, k - i, List.mem_range.2 (by omega), ?_⟩
    rw [show i + (k - i) = k by omega]
    exact (hq k).2 h2
theorem gap_meets3 (L M : List (Option (Nat → Bool))) (t : List Nat) (pm qm : Nat → Bool) (hp : ∀ i, pm i = true ↔ Meets L (t.take i)) (hq : ∀ i, qm i = true ↔ Meets M (t.drop i)) : gapB pm qm t.length (t.length + 1) = true ↔ Meets (L ++ none :: none :: none :: M) t := by
  rw [meets_stars]
  exact gap_meets L M t pm qm hp hq
end Larder
