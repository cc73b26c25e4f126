/- InScore. -/
import Derived.Test.YtidfbelckdlbhaaDoorIns
import Derived.BigQuiet
import Derived.WalkSmall
namespace Go.Proofs.YtidfbelckdlbhaaDoor
open Go.ChangeShapes Go.WideShapes Go.ChangeAt Go.RowKit
set_option linter.unusedVariables false
set_option maxRecDepth 100000
set_option maxHeartbeats 1000000

theorem inscore_any (lf ls : Int) (lo : Bool) (hf hs : Int) (ho : Bool) (s : Int) (w : World) :
    Calls Tryd.prog 7 #[.agg #[.int .i64 lf, .int .i64 ls, .bool lo], .agg #[.int .i64 hf, .int .i64 hs, .bool ho], .int .i64 s] w fun e w' => e = .returned (.bool (Larder.inB lf (Larder.cmpInt s ls) lo hf (Larder.cmpInt hs s) ho)) ∧ Below w.heap.size w w' := by
  have H1 := hide (fun W => comp64_any s ls W)
  have H2 := hide (fun W => comp64_any hs s W)
  have H3 := hide (fun W => mirr_any hf W)
  generalize hA : Larder.cmpInt s ls = A at *
  generalize hB : Larder.cmpInt hs s = B at *
  have HR : Hid (Larder.inB lf A lo hf B ho = (Larder.letsB lf A lo && Larder.letsB (Larder.cmpInt 0 hf) B ho)) := hide rfl
  have H4 := hide (fun W => lets_any lf A lo W)
  have H5 := hide (fun W => lets_any (Larder.cmpInt 0 hf) B ho W)
  generalize Larder.inB lf A lo hf B ho = R at *
  generalize Larder.cmpInt 0 hf = M at *
  generalize hL : Larder.letsB lf A lo = L at *
  generalize hH : Larder.letsB M B ho = U at *
  clear hA hB hL hH
  have hb : Below w.heap.size w ((w.alloc (.cells #[.int .i64 lf, .int .i64 ls, .bool lo] 24)).alloc (.cells #[.int .i64 hf, .int .i64 hs, .bool ho] 24)) := ((Below.refl _ _).alloc (Nat.le_refl _) _).alloc (by simp) _
  have HB := hide hb
  clear hb
  cases L with
  | true =>
    go_enter Tryd.func7, Tryd.ntmps7
    go_wp2_with fail
    go_quiet (first | (go_at_call 16; first | with_reducible exact Calls.quiet_of_same (unhide H1 _) | with_reducible exact Calls.quiet_of_same (unhide H2 _)) | (go_at_call 17; exact Calls.quiet_of_same (unhide H3 _)) | (go_at_call 15; first | with_reducible exact Calls.quiet_of_same (unhide H4 _) | with_reducible exact Calls.quiet_of_same (unhide H5 _)))
    all_goals go_wp2
    all_goals go_ret
    all_goals exact ⟨ret_bool (unhide HR).symm, below_drewN (unhide HB) _⟩
  | false =>
    go_enter Tryd.func7, Tryd.ntmps7
    go_wp2_with fail
    go_quiet (first | (go_at_call 16; exact Calls.quiet_of_same (unhide H1 _)) | (go_at_call 15; exact Calls.quiet_of_same (unhide H4 _)))
    all_goals go_wp2
    all_goals go_ret
    all_goals exact ⟨ret_bool (unhide HR).symm, below_drewN (unhide HB) _⟩
end Go.Proofs.YtidfbelckdlbhaaDoor
