/- Three blocks; refused. -/
import Derived.Test.YtdgdnpgjbphgaabSteps
namespace Go.Proofs.Ytdgdnpgjbphgaab
open Go.ChangeShapes Go.WideShapes Go.ChangeAt Go.RowKit
set_option linter.unusedVariables false
set_option maxRecDepth 100000
set_option maxHeartbeats 2000000

/-- three blocks -/
structure Three (w : World) (P : Nat → Nat × Nat × Nat) (S : Nat → List Nat × List Bool × Nat) : Prop where
  ar : ∀ i, i < 3 → Ar w (P i).1 (P i).2.1 (P i).2.2 (S i).1 (S i).2.1 (S i).2.2
  sound : ∀ i, i < 3 → Sound (S i).1 (S i).2.1 (S i).2.2
theorem Three.below {w w' : World} {P : Nat → Nat × Nat × Nat} {S : Nat → List Nat × List Bool × Nat} (h : Three w P S) (hb : Below w.heap.size w w') : Three w' P S := ⟨fun i hi => (h.ar i hi).below hb, h.sound⟩
def t3 (n : Int) : Nat := (n % 3).toNat
theorem t3_lt (n : Int) : t3 n < 3 := by unfold t3; omega
theorem three_nat (n : Int) (w : World) : Calls Try.prog 12 #[.int .i64 n] w fun e w' => e = .returned (.int .i64 (t3 n : Nat)) ∧ w' = w := by
  have h := three_any n w
  have e : ((t3 n : Nat) : Int) = n % 3 := by unfold t3; omega
  rw [e]; exact h
end Go.Proofs.Ytdgdnpgjbphgaab
