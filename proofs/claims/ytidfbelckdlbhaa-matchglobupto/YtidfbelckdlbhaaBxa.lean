/- The Ask's box. -/
import Derived.Test.YtidfbelckdlbhaaHld
import Derived.Test.YtidfbelckdlbhaaCpE
namespace Go.Proofs.Ytidfbelckdlbhaa
open Go.ChangeShapes Go.WideShapes Go.ChangeAt Go.RowKit
set_option linter.unusedVariables false
/-- the Ask's box stands -/
def Bx (w : World) (A : Array Value) (W : World) : Prop := W.heap[w.heap.size]? = some (.cells A 28 (0, 0)) ∧ Below w.heap.size w W
theorem row_lt {W : World} {g : Nat} {o : Obj} (h : W.heap[g]? = some o) : g < W.heap.size := by
  rcases Nat.lt_or_ge g W.heap.size with q | q
  · exact q
  · rw [Array.getElem?_eq_none q] at h
    cases h
theorem Bx.next {w W W' : World} {A : Array Value} (h : Bx w A W) (hb : Below W.heap.size W W') : Bx w A W' := ⟨(hb.block _ (row_lt h.1)).trans h.1, chain h.2 hb (Nat.le_refl _)⟩
theorem Bx.drew {w W : World} {A : Array Value} (h : Bx w A W) : Bx w A W.drew := ⟨h.1, h.2.drew⟩
end Go.Proofs.Ytidfbelckdlbhaa
