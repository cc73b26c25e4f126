/- WordTurns. -/
import Derived.Test.YtochdajeocganaaTurnsSome
import Derived.Test.YtochdajeocganaaTurnsNil
namespace Go.Proofs.Ytochdajeocganaa.WordTurns
open Go.ChangeShapes Go.WideShapes Go.ChangeAt Go.RowKit Go.Joins
set_option linter.unusedVariables false


theorem law (a : Option Addr) (cap : Nat) (w : World) (l : List Nat) (K R S : Int) (x : Nat) (N : Int) (hx : x < 18446744073709551616) (hN1 : -9223372036854775808 ≤ N) (hN2 : N ≤ 9223372036854775807) (hl : l.length ≤ 140737488351232) (hB : Bytes w a l) (hs : Small l) :
    Calls Try.prog 5 #[.agg #[.int .i64 K, .int .i64 R, .int .i64 S, .int .u64 x, .slice a l.length cap, .int .i64 N]] w fun e w' => e = .returned (.bool true) ∧ Below w.heap.size w w' := by
  by_cases h0 : l = []
  · exact law_nil a cap w l h0 K R S x N hx hN1 hN2 hl hs
  · rcases hB with h | ⟨b, off, rfl, hb, hc⟩
    · exact absurd h h0
    · exact law_some b off cap w l (by cases l with | nil => exact absurd rfl h0 | cons _ _ => simp) hb hc K R S x N hx hN1 hN2 hl hs
end Go.Proofs.Ytochdajeocganaa.WordTurns
