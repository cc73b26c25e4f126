/- Rows of bytes. -/
import Derived.Test.YtfgemcmiilbodaaDoorSha
import Derived.Test.YtfgemcmiilbodaaDoorEqs
import Derived.Test.YtfgemcmiilbodaaDoorLine
namespace Go.Proofs.YtfgemcmiilbodaaDoor
open Go.ChangeShapes Go.WideShapes Go.ChangeAt Go.RowKit
set_option linter.unusedVariables false
set_option linter.unusedSimpArgs false
set_option maxRecDepth 20000
set_option maxHeartbeats 4000000
def byV (l : List Nat) (q : Nat) : Value := .int .u8 (l.getD q 0 : Nat)
theorem Rws.bytes {W : World} {v : Value} {l : List Nat} (h : Rws W 5 1 v l.length (byV l)) : ∃ a c, v = .slice a l.length c ∧ Bytes W a l ∧ (a = none → c = 0) := by
  rcases h with ⟨rfl, h0⟩ | ⟨b, cap, cur, rfl, hg, hn, hm, hs, hh⟩
  · exact ⟨none, 0, by rw [h0], .inl (List.eq_nil_of_length_eq_zero h0), fun _ => rfl⟩
  · refine ⟨_, cap, rfl, .inr ⟨b, 0, rfl, block_lt hg, fun i hi => ?_⟩, fun h => by cases h⟩
    rw [Nat.zero_add, cell_of_row _ _ _ _ _ _ hg, hh i (by omega)]
    rfl
theorem OwnB.rws {w : World} {b : Nat} {v : Value} {l : List Nat} (h : OwnB w b v l) : Rws w 5 1 v l.length (byV l) := by
  rcases h.2 with ⟨h1, h2⟩ | ⟨g, cap, cur, h1, _, h3, h4, h5, h6, h7⟩
  · exact .inl ⟨h1, h2⟩
  · refine .inr ⟨g, cap, cur, h1, h3, h4, h5, h6, fun k hk => ?_⟩
    have e : cur[k]? = (cellsOf l)[k]? := by rw [← h7, List.getElem?_take, if_pos hk]; simp
    have hk' : k < l.length := by omega
    rw [e]
    unfold cellsOf byV
    rw [List.getElem?_map, List.getElem?_eq_getElem hk', List.getD_eq_getElem?_getD, List.getElem?_eq_getElem hk']
    rfl
theorem OwnB.ge {w : World} {b : Nat} {v : Value} {l : List Nat} (h : OwnB w b v l) : ∀ g, v.ownBlock = some g → b ≤ g := fun g hg => by
  rcases h.2 with ⟨rfl, h2⟩ | ⟨g', cap, cur, rfl, h2, _⟩
  · simp [Value.ownBlock] at hg
  · simp [Value.ownBlock] at hg
    omega
theorem Rws.inb' {W : World} {a : Option Addr} {n c : Nat} {l : List Nat} (h : Rws W 5 1 (.slice a n c) l.length (byV l)) : Bytes W a l ∧ l.length ≤ c ∧ c ≤ 9223372036854775807 ∧ (a = none → c = 0) := by
  rcases h with ⟨e, h0⟩ | ⟨b, cap, cur, e, hg, hn, hm, hs, hh⟩
  · simp only [Value.slice.injEq] at e
    obtain ⟨rfl, h1, rfl⟩ := e
    exact ⟨.inl (List.eq_nil_of_length_eq_zero h0), by omega, by omega, fun _ => rfl⟩
  · simp only [Value.slice.injEq] at e
    obtain ⟨rfl, h1, rfl⟩ := e
    refine ⟨.inr ⟨b, 0, rfl, block_lt hg, fun i hi => ?_⟩, hn, hm, fun h => by cases h⟩
    rw [Nat.zero_add, cell_of_row _ _ _ _ _ _ hg, hh i (by omega)]
    rfl
theorem Rws.take {w : World} {t : TypeId} {a : Option Addr} {n c m : Nat} {f : Nat → Value} (h : Rws w t 1 (.slice a n c) n f) (hm : m ≤ n) (f' : Nat → Value) (hf : ∀ k, k < m → f k = f' k) : Rws w t 1 (.slice a m c) m f' := by
  rcases h with ⟨e, h0⟩ | ⟨b, cap, cur, e, h1, h2, h3, h4, h5⟩
  · cases e
    obtain rfl : m = 0 := by omega
    exact .inl ⟨rfl, rfl⟩
  · cases e
    exact .inr ⟨b, c, cur, rfl, h1, by omega, h3, h4, fun k hk => by rw [h5 k (by omega), hf k (by omega)]⟩
theorem Rws.line {w : World} {t : TypeId} {v : Value} {n : Nat} {f : Nat → Value} (h : Rws w t 1 v n f) : Bk.Line w t v n f := by
  rcases h with h | ⟨b, cap, cur, h1, h2, h3, h4, h5, h6⟩
  · exact .inl h
  · exact .inr ⟨b, cap, cur, h1, h2, h3, h4, by omega, fun j hj => h6 j (by omega)⟩
end Go.Proofs.YtfgemcmiilbodaaDoor
