/- Window, of the program and of the document. -/
import Derived.Test.YtidfbelckdlbhaaDoorNumber
import Derived.Deep.Light
namespace Larder
/-- which elements of n -/
def winI (s t n : Int) : Int × Int :=
  if n ≤ 0 then (0, 0)
  else if (if s < 0 then max (s + n) 0 else s) > min (if t < 0 then t + n else t) (n - 1) then (0, 0)
  else ((if s < 0 then max (s + n) 0 else s), min (if t < 0 then t + n else t) (n - 1) - (if s < 0 then max (s + n) 0 else s) + 1)
end Larder
namespace Go.Proofs.YtidfbelckdlbhaaDoor
open Go.ChangeShapes Go.WideShapes Go.ChangeAt Go.RowKit
set_option linter.unusedVariables false

theorem window_any (s t n : Int) (w : World) (hs1 : -9223372036854775808 ≤ s) (hs2 : s ≤ 9223372036854775807) (ht1 : -9223372036854775808 ≤ t) (ht2 : t ≤ 9223372036854775807) (hn1 : -9223372036854775808 ≤ n) (hn2 : n ≤ 9223372036854775807) :
    Calls Tryd.prog 11 #[.int .i64 s, .int .i64 t, .int .i64 n] w fun e w' => e = .returned (.tuple #[.int .i64 (Larder.winI s t n).1, .int .i64 (Larder.winI s t n).2]) ∧ w' = w := by
  have HW : Hid (∃ W, W = Larder.winI s t n) := hide ⟨_, rfl⟩
  obtain ⟨W, hW⟩ := unhide HW
  clear HW
  rw [← hW]
  have HW := hide hW
  clear hW
  go_enter Tryd.func11, Tryd.ntmps11
  go_wp2
  all_goals (go_ret2; refine ⟨ret_two ?_ ?_, rfl⟩ <;> (go_light; rw [unhide HW]; unfold Larder.winI; (repeat' split) <;> dsimp only <;> omega))

end Go.Proofs.YtidfbelckdlbhaaDoor
