/- A graph: edge, rawOf. -/
import Derived.Test.YtdgdnpgjbphgaabLists
import Derived.Deep.CutBlock
import Derived.Deep.DeepCutAuto
import Derived.Deep.Light
namespace Go.Proofs.Ytdgdnpgjbphgaab
open Go.ChangeShapes Go.WideShapes Go.ChangeAt Go.RowKit
set_option linter.unusedVariables false
set_option maxRecDepth 100000
set_option maxHeartbeats 2000000

/-- a list of numbers -/
def Nums (w : World) (a : Option Addr) (l : List Int) : Prop := l = [] ∨ ∃ b off, a = some ⟨b, off, none⟩ ∧ b < w.heap.size ∧ ∀ i, i < l.length → w.cell? ⟨b, off + i, none⟩ = some (.int .i64 (l.getD i 0))
theorem Nums.below {w w' : World} {a : Option Addr} {l : List Int} (h : Nums w a l) (hb : Below w.heap.size w w') : Nums w' a l := by
  rcases h with h | ⟨b, off, e, hlt, hc⟩
  · exact .inl h
  · exact .inr ⟨b, off, e, Nat.lt_of_lt_of_le hlt hb.size, fun i hi => (hb.cell (p := ⟨b, off + i, none⟩) hlt).trans (hc i hi)⟩
/-- a list of lists of numbers -/
def NumRows (w : World) (a : Option Addr) (E : List (List Int)) : Prop := E = [] ∨ ∃ b off, a = some ⟨b, off, none⟩ ∧ b < w.heap.size ∧ ∀ i, i < E.length → ∃ ai ci, w.cell? ⟨b, off + i, none⟩ = some (.slice ai (E.getD i []).length ci) ∧ Nums w ai (E.getD i [])
theorem NumRows.below {w w' : World} {a : Option Addr} {E : List (List Int)} (h : NumRows w a E) (hb : Below w.heap.size w w') : NumRows w' a E := by
  rcases h with h | ⟨b, off, e, hlt, hc⟩
  · exact .inl h
  · refine .inr ⟨b, off, e, Nat.lt_of_lt_of_le hlt hb.size, fun i hi => ?_⟩
    obtain ⟨ai, ci, h1, h2⟩ := hc i hi
    exact ⟨ai, ci, (hb.cell (p := ⟨b, off + i, none⟩) hlt).trans h1, h2.below hb⟩
/-- where ref k of object i leads -/
def edgeN (E : List (List Int)) (n i k : Nat) : Option Nat :=
  if i < E.length ∧ k < (E.getD i []).length then
    (if ((E.getD i []).getD k 0 % ((n : Int) + 1)).toNat = n then none else some ((E.getD i []).getD k 0 % ((n : Int) + 1)).toNat)
  else none
theorem edgeN_lt {E : List (List Int)} {n i k t : Nat} (h : edgeN E n i k = some t) : t < n := by
  unfold edgeN at h
  by_cases hc : i < E.length ∧ k < (E.getD i []).length
  · rw [if_pos hc] at h
    have h1 := Int.emod_lt_of_pos ((E.getD i []).getD k 0) (show (0 : Int) < (n : Int) + 1 by omega)
    have h2 := Int.emod_nonneg ((E.getD i []).getD k 0) (show ((n : Int) + 1) ≠ 0 by omega)
    by_cases he : ((E.getD i []).getD k 0 % ((n : Int) + 1)).toNat = n
    · rw [if_pos he] at h; cases h
    · rw [if_neg he] at h
      cases h
      omega
  · rw [if_neg hc] at h; cases h
/-- the number that raw k of object i holds -/
def rawN (i k : Nat) : Nat := i * 1000003 + k * 7919 + 5
end Go.Proofs.Ytdgdnpgjbphgaab
