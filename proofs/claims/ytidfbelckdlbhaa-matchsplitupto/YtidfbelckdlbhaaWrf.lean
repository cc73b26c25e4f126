/- Glob of a known pattern; small lists. -/
import Derived.Test.YtidfbelckdlbhaaWre
import Derived.Test.YtidfbelckdlbhaaSpl
namespace Go.Proofs.Ytidfbelckdlbhaa
open Go.ChangeShapes Go.WideShapes Go.ChangeAt Go.RowKit
set_option linter.unusedVariables false
set_option linter.unusedSimpArgs false
set_option maxRecDepth 20000
set_option maxHeartbeats 2000000

/-- Glob whose pattern's pieces are known -/
theorem glob_is (la a : Option Addr) (lc c n m : Nat) (p T : List Nat) (L : List (Option (Nat → Bool))) (W : World) (ans : Bool) (hn : n = p.length) (hm : m = T.length) (hL : Larder.parse p = L) (hp : p.length ≤ 1073741824) (hT : T.length ≤ 1073741824) (hsp : Small p) (hst : Small T) (hB : Bytes W la p) (hBT : Bytes W a T) (ha : ans = true ↔ Larder.Meets L T) :
    Calls Try.prog 11 #[.slice la n lc, .slice a m c] W fun e w' => e = .returned (.bool ans) ∧ Below W.heap.size W w' := by
  subst hn hm
  refine (glob_any la a lc c W p T hp hT hsp hst hB hBT).mono ?_
  rintro e w' ⟨r, rfl, hr, hbl⟩
  rw [hL] at hr
  have : r = ans := by
    rcases Bool.eq_false_or_eq_true r with h1 | h1 <;> rcases Bool.eq_false_or_eq_true ans with h2 | h2
    · rw [h1, h2]
    · rw [ha.2 (hr.1 h1)] at h2; cases h2
    · rw [hr.2 (ha.1 h2)] at h1; cases h1
    · rw [h1, h2]
  rw [this]
  exact ⟨rfl, hbl⟩
theorem small_pat (xs : List Larder.Pcd) (h : ∀ x ∈ xs, x.b < 256 ∧ MsSmall x.ms) : Small (Larder.patL xs) := by
  refine small_all ?_
  intro y hy
  unfold Larder.patL at hy
  obtain ⟨x, hx, hy⟩ := List.mem_flatMap.1 hy
  obtain ⟨j, hj, e⟩ := List.getElem_of_mem hy
  have := small_write x (h x hx).1 (h x hx).2 j hj
  rw [List.getD_eq_getElem?_getD, List.getElem?_eq_getElem hj] at this
  simp at this
  rw [← e]
  exact this
theorem small_join {a b : List Nat} (ha : Small a) (hb : Small b) : Small (a ++ b) := by
  intro j hj
  rw [List.getD_eq_getElem?_getD]
  by_cases h : j < a.length
  · rw [List.getElem?_append_left h]
    have := ha j h
    rwa [List.getD_eq_getElem?_getD] at this
  · rw [List.getElem?_append_right (by omega)]
    rw [List.length_append] at hj
    have := hb (j - a.length) (by omega)
    rwa [List.getD_eq_getElem?_getD] at this
theorem small_take {a : List Nat} (ha : Small a) (i : Nat) : Small (a.take i) := by
  intro j hj
  rw [List.length_take] at hj
  have := ha j (by omega)
  rw [List.getD_eq_getElem?_getD] at this ⊢
  rw [List.getElem?_take, if_pos (by omega)]
  exact this
theorem small_drop {a : List Nat} (ha : Small a) (i : Nat) : Small (a.drop i) := by
  intro j hj
  rw [List.length_drop] at hj
  have := ha (i + j) (by omega)
  rw [List.getD_eq_getElem?_getD] at this ⊢
  rw [List.getElem?_drop]
  exact this
end Go.Proofs.Ytidfbelckdlbhaa
