/- NestTable: the law. -/
import Derived.Test.YteooecjmnombfaaDoorLw
import Derived.Test.YteooecjmnombfaaDoorRx
namespace Go.Proofs.YteooecjmnombfaaDoor
open Go.ChangeShapes Go.WideShapes Go.ChangeAt Go.RowKit
set_option linter.unusedVariables false
set_option maxRecDepth 20000
set_option maxHeartbeats 4000000

theorem law_any (w : World) (ht : Tab w) (n : Int) : Calls Tryd.prog 3 #[.int .i64 n] w fun e w' => e = .returned (.bool true) ∧ Below w.heap.size w w' := by
  have CN : Hid (Calls Tryd.prog 6 #[] w fun e w' => ∃ b c, e = .returned (.slice (some ⟨b, 0, none⟩) 29 c) ∧ Hid (b < w'.heap.size ∧ (∀ k, k < 203 → w'.cell? ⟨b, k, none⟩ = tabA[k]?) ∧ Below w.heap.size w w')) := hide (ref_any w)
  have CT : Hid (∀ W b c, Hid (b < W.heap.size ∧ (∀ k, k < 203 → W.cell? ⟨b, k, none⟩ = tabA[k]?) ∧ Below w.heap.size w W) → Calls Tryd.prog 4 #[.func (.func 5) #[] #[], .slice (some ⟨b, 0, none⟩) 29 c, .int .i64 n] W fun e w' => e = .returned (.bool true) ∧ Hid (Below w.heap.size w w')) := hide (fun W b c h => by
    obtain ⟨h1, h2, h3⟩ := unhide h
    refine (table_any W (ht.below ht.pos h3) b c h1 h2 n).mono ?_
    rintro e w' ⟨rfl, h⟩
    exact ⟨rfl, hide (bel_chain h3 h h3.size)⟩)
  clear ht
  go_enter Tryd.func3, Tryd.ntmps3
  go_wp2_with (first
    | (go_at_call 6; refine (unhide CN).mono ?_; rintro e w1 ⟨b1, c1, rfl, k1⟩)
    | (go_at_call 4; refine (unhide CT _ _ _ k1).mono ?_; rintro e w5 ⟨rfl, k5⟩))
  go_ret
  exact ⟨rfl, unhide k5⟩
end Go.Proofs.YteooecjmnombfaaDoor
