/- InLex, sameLex. -/
import Derived.Test.YtidfbelckdlbhaaDoorEqs
import Derived.Test.YtidfbelckdlbhaaDoorLxa
import Derived.BigQuiet
import Derived.WalkSmall
namespace Go.Proofs.YtidfbelckdlbhaaDoor
open Go.ChangeShapes Go.WideShapes Go.ChangeAt Go.RowKit
set_option linter.unusedVariables false
set_option maxRecDepth 100000
set_option maxHeartbeats 1000000

theorem Bytes.heapEq {w w' : World} {a : Option Addr} {l : List Nat} (h : Bytes w a l) (e : w.heap = w'.heap) : Bytes w' a l := by
  rcases h with h | ⟨b, off, h, hb, hc⟩
  · exact .inl h
  · exact .inr ⟨b, off, h, by rw [← e]; exact hb, fun i hi => (World.cell?_of_block (w := w) (by rw [e])).trans (hc i hi)⟩
theorem inlex_any {aL aH aM : Option Addr} {cL cH cM : Nat} {L H M : List Nat} (lf : Int) (lo : Bool) (hf : Int) (ho : Bool) (w : World) (sL : Small L) (sH : Small H) (sM : Small M) (bL : Bytes w aL L) (bH : Bytes w aH H) (bM : Bytes w aM M) :
    Calls Tryd.prog 10 #[.agg #[.int .i64 lf, .slice aL L.length cL, .bool lo], .agg #[.int .i64 hf, .slice aH H.length cH, .bool ho], .slice aM M.length cM] w fun e w' => e = .returned (.bool (Larder.inB lf (Larder.cmpL M L) lo hf (Larder.cmpL H M) ho)) ∧ Below w.heap.size w w' := by
  rw [← cmpI_eq M L sM sL, ← cmpI_eq H M sH sM]
  have hb : Below w.heap.size w ((w.alloc (.cells #[.int .i64 lf, .slice aL L.length cL, .bool lo] 26)).alloc (.cells #[.int .i64 hf, .slice aH H.length cH, .bool ho] 26)) := ((Below.refl _ _).alloc (Nat.le_refl _) _).alloc (by simp) _
  have HB := hide hb
  have H1 : Hid (∀ W, ((w.alloc (.cells #[.int .i64 lf, .slice aL L.length cL, .bool lo] 26)).alloc (.cells #[.int .i64 hf, .slice aH H.length cH, .bool ho] 26)).heap = W.heap → Calls Tryd.prog 19 #[.slice aM M.length cM, .slice aL L.length cL] W fun e w' => e = .returned (.int .i64 (cmpI M L)) ∧ w' = W) := hide (fun W hW => bcmp_any (c1 := cM) (c2 := cL) ((bM.below hb).heapEq hW) ((bL.below hb).heapEq hW))
  have H2 : Hid (∀ W, ((w.alloc (.cells #[.int .i64 lf, .slice aL L.length cL, .bool lo] 26)).alloc (.cells #[.int .i64 hf, .slice aH H.length cH, .bool ho] 26)).heap = W.heap → Calls Tryd.prog 19 #[.slice aH H.length cH, .slice aM M.length cM] W fun e w' => e = .returned (.int .i64 (cmpI H M)) ∧ w' = W) := hide (fun W hW => bcmp_any (c1 := cH) (c2 := cM) ((bH.below hb).heapEq hW) ((bM.below hb).heapEq hW))
  have H3 := hide (fun W => mirr_any hf W)
  clear bL bH bM hb sL sH sM
  generalize cmpI M L = A at *
  generalize cmpI H M = B at *
  generalize L.length = nL at *
  generalize H.length = nH at *
  generalize M.length = nM at *
  have HR : Hid (Larder.inB lf A lo hf B ho = (Larder.letsB lf A lo && Larder.letsB (Larder.cmpInt 0 hf) B ho)) := hide rfl
  have H4 := hide (fun W => lets_any lf A lo W)
  have H5 := hide (fun W => lets_any (Larder.cmpInt 0 hf) B ho W)
  generalize Larder.inB lf A lo hf B ho = R at *
  generalize Larder.cmpInt 0 hf = Mi at *
  generalize hL : Larder.letsB lf A lo = Lo at *
  generalize hH : Larder.letsB Mi B ho = U at *
  clear hL hH
  cases Lo with
  | true =>
    go_enter Tryd.func10, Tryd.ntmps10
    go_wp2_with fail
    go_quiet (first | (go_at_call 19; first | with_reducible exact Calls.quiet_of_same (unhide H1 _ rfl) | with_reducible exact Calls.quiet_of_same (unhide H2 _ rfl)) | (go_at_call 17; exact Calls.quiet_of_same (unhide H3 _)) | (go_at_call 15; first | with_reducible exact Calls.quiet_of_same (unhide H4 _) | with_reducible exact Calls.quiet_of_same (unhide H5 _)))
    all_goals go_wp2
    all_goals go_ret
    all_goals exact ⟨ret_bool (unhide HR).symm, below_drewN (unhide HB) _⟩
  | false =>
    go_enter Tryd.func10, Tryd.ntmps10
    go_wp2_with fail
    go_quiet (first | (go_at_call 19; with_reducible exact Calls.quiet_of_same (unhide H1 _ rfl)) | (go_at_call 15; with_reducible exact Calls.quiet_of_same (unhide H4 _)))
    all_goals go_wp2
    all_goals go_ret
    all_goals exact ⟨ret_bool (unhide HR).symm, below_drewN (unhide HB) _⟩

end Go.Proofs.YtidfbelckdlbhaaDoor
