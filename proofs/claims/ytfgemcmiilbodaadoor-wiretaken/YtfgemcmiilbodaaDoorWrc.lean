/- The document's texted and bulk. -/
import Derived.Test.YtfgemcmiilbodaaDoorWrb
import Derived.Test.YtfgemcmiilbodaaDoorText
namespace Go.Proofs.YtfgemcmiilbodaaDoor
open Go.ChangeShapes Go.WideShapes Go.ChangeAt Go.RowKit
set_option linter.unusedVariables false
set_option linter.unusedSimpArgs false
set_option maxRecDepth 20000
set_option maxHeartbeats 4000000

/-- bytes as a text -/
def sB (l : List Nat) : ByteArray := strOfNums (l.map Int.ofNat)
theorem sB_add (w : World) (x y : List Nat) (hx : x.length ≤ 8388608) (hy : y.length ≤ 8388608) : (Op.stringOp .add (sB x) (sB y)).run Tryd.prog w = .ok (.string (sB (x ++ y))) w := by
  have h := run_string_add_lists (P := Tryd.prog) w ((x.map Int.ofNat).map fun n => UInt8.ofNat n.toNat) ((y.map Int.ofNat).map fun n => UInt8.ofNat n.toNat) (by simp; omega) (by simp; omega)
  unfold sB strOfNums
  rw [List.map_append, List.map_append]
  exact h
end Go.Proofs.YtfgemcmiilbodaaDoor
