/- MatchEnds, in plain words; what lies in memory. -/
import Derived.Test.YtidfbelckdlbhaaDoorWak
import Derived.Test.YtidfbelckdlbhaaDoorText
import Derived.Test.YtidfbelckdlbhaaDoorInb
import Derived.Test.YtidfbelckdlbhaaDoorInx
import Derived.Test.YtidfbelckdlbhaaDoorSta
namespace Larder
theorem spellI_head (n : Int) : (spellI n).getD 0 0 = 45 ∨ 48 ≤ (spellI n).getD 0 0 := by
  by_cases h : n < 0
  · rw [spellI_neg n h]; exact .inl rfl
  · rw [spellI_pos n h]
    obtain ⟨h1, _, h2⟩ := (spell_ok n.toNat).1
    exact .inr (h2 0 h1).1
theorem tail_spell (o : Bool) (n : Int) (h1 : -9223372036854775808 ≤ n) (h2 : n ≤ 9223372036854775807) : scoreTail o (spellI n) = ((0, n, o), 0) := by
  have e := int_spell n h1 h2
  have no : ∀ l, (intRes l).2 ≠ 0 → spellI n ≠ l := fun l hl h => by rw [← h, e] at hl; exact hl rfl
  unfold scoreTail
  rw [if_neg (no _ (by decide)), if_neg (fun h => by rcases h with h | h; (· exact no _ (by decide) h); (· exact no _ (by decide) h)), e, if_pos rfl]
theorem score_spell (n : Int) (h1 : -9223372036854775808 ≤ n) (h2 : n ≤ 9223372036854775807) : scoreRes (spellI n) = ((0, n, false), 0) := by
  unfold scoreRes
  rw [if_neg (fun h => by have := spellI_head n; omega)]
  exact tail_spell false n h1 h2
theorem score_open (n : Int) (h1 : -9223372036854775808 ≤ n) (h2 : n ≤ 9223372036854775807) : scoreRes (40 :: spellI n) = ((0, n, true), 0) := by
  unfold scoreRes
  rw [if_pos ⟨by simp, rfl⟩]
  exact tail_spell true n h1 h2
theorem score_low : scoreRes [45, 105, 110, 102] = ((-1, 0, false), 0) := by decide
theorem score_high : scoreRes [43, 105, 110, 102] = ((1, 0, false), 0) := by decide
theorem lex_in (p : List Nat) : lexRes (91 :: p) = ((0, p, false), 0) := by
  unfold lexRes
  rw [if_neg (by intro h; cases h), if_neg (by intro h; cases h), if_pos ⟨by simp, rfl⟩]
  rfl
theorem lex_out (p : List Nat) : lexRes (40 :: p) = ((0, p, true), 0) := by
  unfold lexRes
  rw [if_neg (by intro h; cases h), if_neg (by intro h; cases h), if_neg (by intro h; have h2 : (40 : Nat) = 91 := h.2; omega), if_pos ⟨by simp, rfl⟩]
  rfl
theorem lex_first : lexRes [45] = ((-1, [], false), 0) := by decide
theorem lex_last : lexRes [43] = ((1, [], false), 0) := by decide
/-- the ends, by how a thing stands to what they name -/
theorem in_a (c b : Int) : inB 0 c false 1 b false = decide (0 ≤ c) := by
  have e : cmpInt 0 1 = -1 := by decide
  unfold inB letsB
  rw [e, if_pos rfl, if_neg (by decide)]
  by_cases h : 0 ≤ c <;> simp [h] <;> omega
theorem in_b (c b : Int) : inB 0 c true 1 b false = decide (0 < c) := by
  have e : cmpInt 0 1 = -1 := by decide
  unfold inB letsB
  rw [e, if_pos rfl, if_neg (by decide)]
  simp
theorem in_c (a c : Int) : inB (-1) a false 0 c false = decide (0 ≤ c) := by
  have e : cmpInt 0 0 = 0 := by decide
  unfold inB letsB
  rw [e, if_neg (by decide), if_pos rfl]
  by_cases h : 0 ≤ c <;> simp [h] <;> omega
theorem in_d (a c : Int) : inB (-1) a false 0 c true = decide (0 < c) := by
  have e : cmpInt 0 0 = 0 := by decide
  unfold inB letsB
  rw [e, if_neg (by decide), if_pos rfl]
  simp
theorem in_all (a b : Int) : inB (-1) a false 1 b false = true := by
  have e : cmpInt 0 1 = -1 := by decide
  unfold inB letsB
  rw [e, if_neg (by decide), if_neg (by decide)]
  rfl
theorem in_high (a b : Int) : inB 1 a false 1 b false = false := by
  unfold inB letsB
  rw [if_neg (by decide)]
  rfl
theorem in_low (a b : Int) : inB (-1) a false (-1) b false = false := by
  have e : cmpInt 0 (-1) = 1 := by decide
  unfold inB letsB
  rw [e, if_neg (by decide), if_neg (by decide)]
  rfl
theorem in_one (a b : Int) : inB 0 a false 0 b false = (decide (0 ≤ a) && decide (0 ≤ b)) := by
  have e : cmpInt 0 0 = 0 := by decide
  unfold inB letsB
  rw [e, if_pos rfl, if_pos rfl]
  by_cases h : 0 ≤ a <;> by_cases h2 : 0 ≤ b <;> simp [h, h2] <;> omega
theorem in_none (a b : Int) : inB 0 a true 0 b false = (decide (0 < a) && decide (0 ≤ b)) := by
  have e : cmpInt 0 0 = 0 := by decide
  unfold inB letsB
  rw [e, if_pos rfl, if_pos rfl]
  by_cases h2 : 0 ≤ b <;> simp [h2] <;> omega
theorem cmp_le (x y : Int) : decide (0 ≤ cmpInt x y) = decide (y ≤ x) := by
  unfold cmpInt
  repeat' split
  all_goals simp
  all_goals omega
theorem cmp_lt (x y : Int) : decide (0 < cmpInt x y) = decide (y < x) := by
  unfold cmpInt
  repeat' split
  all_goals simp
  all_goals omega
end Larder
namespace Go.Proofs.YtidfbelckdlbhaaDoor
open Go.ChangeShapes Go.WideShapes Go.ChangeAt Go.RowKit
set_option linter.unusedVariables false
set_option maxRecDepth 20000

/-- rows that lie in memory -/
def Has (W : World) (L : List (Nat × Array Value × TypeId)) : Prop := ∀ x ∈ L, W.heap[x.1]? = some (.cells x.2.1 x.2.2 (0, 0))
theorem Has.below {W W' : World} {L : List (Nat × Array Value × TypeId)} (h : Has W L) (hb : Below W.heap.size W W') : Has W' L := fun x hx => by
  rw [hb.block _ (Array.getElem?_eq_some_iff.1 (h x hx)).1]; exact h x hx
theorem Has.add {W : World} {L : List (Nat × Array Value × TypeId)} (h : Has W L) (A : Array Value) (t : TypeId) : Has (W.alloc (.cells A t)) ((W.heap.size, A, t) :: L) := fun x hx => by
  rcases List.mem_cons.1 hx with rfl | hx
  · exact heap_alloc_new W _
  · rw [Below.heap_alloc _ _ _ (Array.getElem?_eq_some_iff.1 (h x hx)).1]; exact h x hx
theorem Has.cell {W : World} {L : List (Nat × Array Value × TypeId)} (h : Has W L) {b : Nat} {A : Array Value} {t : TypeId} (hm : (b, A, t) ∈ L) (j : Nat) (v : Value) (hv : A[j]? = some v) : W.cell? ⟨b, j, none⟩ = some v := by
  rw [cell_of_row _ _ _ _ _ _ (h _ hm)]; exact hv
theorem OwnB.cap {w : World} {B : Nat} {v : Value} {l : List Nat} (h : OwnB w B v l) : ∃ a cap, v = .slice a l.length cap ∧ Bytes w a l ∧ (a = none → cap = 0) ∧ l.length ≤ cap ∧ cap ≤ 9223372036854775807 := by
  obtain ⟨a, cap, rfl, hB, hz⟩ := h.shape
  refine ⟨a, cap, rfl, hB, hz, ?_⟩
  rcases h.2 with ⟨e, h0⟩ | ⟨g, cap', cur, e, _, _, hn, hm, _⟩
  · injection e with e1 e2 e3
    exact ⟨by omega, by omega⟩
  · cases e
    exact ⟨hn, by simp only [maxLen] at hm; exact hm⟩
theorem spell_short (n : Int) (h1 : -9223372036854775808 ≤ n) (h2 : n ≤ 9223372036854775807) : (Larder.spellI n).length ≤ 21 := by
  unfold Larder.spellI
  rw [Larder.nums_length]
  exact Lib.itoa_length_le n h1 h2
theorem spell_smallI (n : Int) : Small (Larder.spellI n) := fun i hi => Larder.nums_small _ i hi
theorem small_cons {y : Nat} {l : List Nat} (hy : y < 256) (h : Small l) : Small (y :: l) := by
  intro i hi
  match i, hi with
  | 0, _ => exact hy
  | i + 1, hi => exact h i (by simpa using hi)
end Go.Proofs.YtidfbelckdlbhaaDoor
