/- WireTaken: the law's walks. -/
import Derived.Test.YtfgemcmiilbodaaDoorTkb
import Derived.Test.YtfgemcmiilbodaaDoorPfb
namespace Go.Proofs.YtfgemcmiilbodaaDoor
open Go.ChangeShapes Go.WideShapes Go.ChangeAt Go.RowKit
set_option linter.unusedVariables false
set_option linter.unusedSimpArgs false
set_option maxRecDepth 100000
set_option maxHeartbeats 8000000

def TkEnd (W : World) (e : Ending) (w' : World) : Prop := e = .returned (.bool true) ∧ Hid (Below W.heap.size W w')
theorem taken_none (W : World) (a : Option Addr) (cp : Nat) (ma : Option Addr) (m mp : Nat) (hU : UOk W) (hD : DecIn W a 0 cp []) :
    Calls Tryd.prog 3 #[.agg #[.slice a 0 cp, .slice ma m mp]] W (TkEnd W) := by
  have K0 := hide (TkAt.new W a 0 cp ma m mp)
  have CL : Hid (Calls Tryd.prog 5 #[.slice (some ⟨W.heap.size + 1, 0, none⟩) 6 6] ((W.alloc (.cells #[.slice a 0 cp, .slice ma m mp] 24)).alloc (.cells #[.int .u8 58, .int .u8 45, .int .u8 53, .int .u8 13, .int .u8 10, .int .u8 58] 5 (6, 7))) fun e w' => ∃ (k0 : Int) (ta : Option Addr) (tn tc : Nat) (la : Option Addr) (ln lc : Nat), e = .returned (.tuple #[.agg #[.int .i64 k0, .int .i64 (-5), .slice ta tn tc, .slice la ln lc], .int .i64 5, .int .i64 0]) ∧ Hid (TkAt W w' a 0 cp ma m mp)) := hide (by
    have h := dec_five (W.alloc (.cells #[.slice a 0 cp, .slice ma m mp] 24)) (UOk.below _ _ hU (TkAt.new W a 0 cp ma m mp).bel)
    have e1 : (W.alloc (.cells #[.slice a 0 cp, .slice ma m mp] 24)).heap.size = W.heap.size + 1 := World.size_alloc _ _
    rw [e1] at h
    exact h.mono (fun e w' ⟨k0, ta, tn, tc, la, ln, lc, h1, h2⟩ => ⟨k0, ta, tn, tc, la, ln, lc, h1, hide ((TkAt.new W a 0 cp ma m mp).next (by rw [e1]; exact unhide h2))⟩))
  have kc : (convert 22 22 (.slice (some ⟨W.heap.size + 1, 0, none⟩) 6 6)).run Tryd.prog ((W.alloc (.cells #[.slice a 0 cp, .slice ma m mp] 24)).alloc (.cells #[.int .u8 58, .int .u8 45, .int .u8 53, .int .u8 13, .int .u8 10, .int .u8 58] 5)) = .ok (.slice (some ⟨W.heap.size + 1, 0, none⟩) 6 6) ((W.alloc (.cells #[.slice a 0 cp, .slice ma m mp] 24)).alloc (.cells #[.int .u8 58, .int .u8 45, .int .u8 53, .int .u8 13, .int .u8 10, .int .u8 58] 5 (6, 7))) := by
    have := Lib.run_convert_bytes_const (P := Tryd.prog) (W.alloc (.cells #[.slice a 0 cp, .slice ma m mp] 24)) 22 5 #[.int .u8 58, .int .u8 45, .int .u8 53, .int .u8 13, .int .u8 10, .int .u8 58] 6 6 Tryd.underlying22 Tryd.underlying5
    rw [World.size_alloc] at this
    exact this
  have CN : Hid (∀ V (y : Int), Calls Tryd.prog 6 #[.int .i64 y] V fun e w' => e = .returned (.int .i64 y) ∧ V = w') := hide (fun V y => (num_any V y).mono (fun e w' h => ⟨h.1, h.2.symm⟩))
  have CD : Hid (∀ V, TkAt W V a 0 cp ma m mp → Calls Tryd.prog 5 #[.slice a 0 cp] V fun e w' => ∃ (k0 k1 : Int) (ta : Option Addr) (tn tc : Nat) (la : Option Addr) (ln lc : Nat), e = .returned (.tuple #[.agg #[.int .i64 k0, .int .i64 k1, .slice ta tn tc, .slice la ln lc], .int .i64 0, .int .i64 86]) ∧ Hid (Below V.heap.size V w')) := hide (fun V hV => dec_no (hD.below hV.bel) (UOk.below _ _ hU hV.bel) .short rfl (fun x r e => by cases e))
  clear hU hD
  go_enter Tryd.func3, Tryd.ntmps3
  go_wp2_with (first
    | (go_at_call 5; with_reducible refine (unhide CL).mono ?_; rintro e w3 ⟨k0, ta, tn, tc, la, ln, lc, rfl, h3⟩; have K3 := hide ((unhide h3).next ((Below.refl _ _).alloc (Nat.le_refl _) (.cells #[.int .i64 k0, .int .i64 (-5), .slice ta tn tc, .slice la ln lc] 27))); have c0 := (unhide K3).c0)
    | (go_at_call 6; with_reducible refine (unhide CN _ _).mono ?_; rintro e w6 ⟨rfl, h6⟩; subst h6)
    | (go_at_call 5; with_reducible refine (unhide CD _ (unhide K3)).mono ?_; rintro e w5' ⟨k0', k1', ta', tn', tc', la', ln', lc', rfl, h5'⟩; have K5' := hide ((unhide K3).nextA (unhide h5') (.cells #[.int .i64 k0', .int .i64 k1', .slice ta' tn' tc', .slice la' ln' lc'] 27)); have d0' := (unhide K5').c0; have d1' := (unhide K5').c1))
  go_ret
  exact ⟨rfl, hide (unhide K5').bel⟩
theorem taken_short (W : World) (b off p cp : Nat) (D : List Nat) (ma : Option Addr) (m mp : Nat) (hU : UOk W) (hD : DecIn W (some ⟨b, off, none⟩) (p + 1) cp D) (hP : repP 9 D = .short) :
    Calls Tryd.prog 3 #[.agg #[.slice (some ⟨b, off, none⟩) (p + 1) cp, .slice ma m mp]] W (TkEnd W) := by
  have K0 := hide (TkAt.new W (some ⟨b, off, none⟩) (p + 1) cp ma m mp)
  have CL : Hid (Calls Tryd.prog 5 #[.slice (some ⟨W.heap.size + 1, 0, none⟩) 6 6] ((W.alloc (.cells #[.slice (some ⟨b, off, none⟩) (p + 1) cp, .slice ma m mp] 24)).alloc (.cells #[.int .u8 58, .int .u8 45, .int .u8 53, .int .u8 13, .int .u8 10, .int .u8 58] 5 (6, 7))) fun e w' => ∃ (k0 : Int) (ta : Option Addr) (tn tc : Nat) (la : Option Addr) (ln lc : Nat), e = .returned (.tuple #[.agg #[.int .i64 k0, .int .i64 (-5), .slice ta tn tc, .slice la ln lc], .int .i64 5, .int .i64 0]) ∧ Hid (TkAt W w' (some ⟨b, off, none⟩) (p + 1) cp ma m mp)) := hide (by
    have h := dec_five (W.alloc (.cells #[.slice (some ⟨b, off, none⟩) (p + 1) cp, .slice ma m mp] 24)) (UOk.below _ _ hU (TkAt.new W (some ⟨b, off, none⟩) (p + 1) cp ma m mp).bel)
    have e1 : (W.alloc (.cells #[.slice (some ⟨b, off, none⟩) (p + 1) cp, .slice ma m mp] 24)).heap.size = W.heap.size + 1 := World.size_alloc _ _
    rw [e1] at h
    exact h.mono (fun e w' ⟨k0, ta, tn, tc, la, ln, lc, h1, h2⟩ => ⟨k0, ta, tn, tc, la, ln, lc, h1, hide ((TkAt.new W (some ⟨b, off, none⟩) (p + 1) cp ma m mp).next (by rw [e1]; exact unhide h2))⟩))
  have kc : (convert 22 22 (.slice (some ⟨W.heap.size + 1, 0, none⟩) 6 6)).run Tryd.prog ((W.alloc (.cells #[.slice (some ⟨b, off, none⟩) (p + 1) cp, .slice ma m mp] 24)).alloc (.cells #[.int .u8 58, .int .u8 45, .int .u8 53, .int .u8 13, .int .u8 10, .int .u8 58] 5)) = .ok (.slice (some ⟨W.heap.size + 1, 0, none⟩) 6 6) ((W.alloc (.cells #[.slice (some ⟨b, off, none⟩) (p + 1) cp, .slice ma m mp] 24)).alloc (.cells #[.int .u8 58, .int .u8 45, .int .u8 53, .int .u8 13, .int .u8 10, .int .u8 58] 5 (6, 7))) := by
    have := Lib.run_convert_bytes_const (P := Tryd.prog) (W.alloc (.cells #[.slice (some ⟨b, off, none⟩) (p + 1) cp, .slice ma m mp] 24)) 22 5 #[.int .u8 58, .int .u8 45, .int .u8 53, .int .u8 13, .int .u8 10, .int .u8 58] 6 6 Tryd.underlying22 Tryd.underlying5
    rw [World.size_alloc] at this
    exact this
  have CN : Hid (∀ V (y : Int), Calls Tryd.prog 6 #[.int .i64 y] V fun e w' => e = .returned (.int .i64 y) ∧ V = w') := hide (fun V y => (num_any V y).mono (fun e w' h => ⟨h.1, h.2.symm⟩))
  have CD : Hid (∀ V, TkAt W V (some ⟨b, off, none⟩) (p + 1) cp ma m mp → Calls Tryd.prog 5 #[.slice (some ⟨b, off, none⟩) (p + 1) cp] V fun e w' => ∃ (k0 k1 : Int) (ta : Option Addr) (tn tc : Nat) (la : Option Addr) (ln lc : Nat), e = .returned (.tuple #[.agg #[.int .i64 k0, .int .i64 k1, .slice ta tn tc, .slice la ln lc], .int .i64 0, .int .i64 86]) ∧ Hid (Below V.heap.size V w')) := hide (fun V hV => dec_no (hD.below hV.bel) (UOk.below _ _ hU hV.bel) .short hP (fun x r e => by cases e))
  have hP2 : repP 9 (D.take p) = .short := (repP_grows 9).short (b := D.take p) (c := D.drop p) (by rw [List.take_append_drop]; exact hP)
  have CD2 : Hid (∀ V, TkAt W V (some ⟨b, off, none⟩) (p + 1) cp ma m mp → Calls Tryd.prog 5 #[.slice (some ⟨b, off, none⟩) p cp] V fun e w' => ∃ (k0 k1 : Int) (ta : Option Addr) (tn tc : Nat) (la : Option Addr) (ln lc : Nat), e = .returned (.tuple #[.agg #[.int .i64 k0, .int .i64 k1, .slice ta tn tc, .slice la ln lc], .int .i64 0, .int .i64 86]) ∧ Hid (Below V.heap.size V w')) := hide (fun V hV => dec_no ((hD.below hV.bel).first p (by omega)) (UOk.below _ _ hU hV.bel) .short hP2 (fun x r e => by cases e))
  have hle := hD.le
  have htop := hD.top
  have hfew := hD.few
  have g0 : ((p : Int) + 1 == 0) = false := by rw [beq_eq_false_iff_ne]; omega
  have g1 : (p : Int) + 1 - 1 = p := by omega
  have g2 : (0 : Int) ≤ (p : Int) := by omega
  have g3 : (p : Int) ≤ (cp : Int) := by omega
  clear hU hD hP hP2
  go_enter Tryd.func3, Tryd.ntmps3
  go_wp2_with (first
    | (go_at_call 5; with_reducible refine (unhide CL).mono ?_; rintro e w3 ⟨k0, ta, tn, tc, la, ln, lc, rfl, h3⟩; have K3 := hide ((unhide h3).next ((Below.refl _ _).alloc (Nat.le_refl _) (.cells #[.int .i64 k0, .int .i64 (-5), .slice ta tn tc, .slice la ln lc] 27))); have c0 := (unhide K3).c0)
    | (go_at_call 6; with_reducible refine (unhide CN _ _).mono ?_; rintro e w6 ⟨rfl, h6⟩; subst h6)
    | (go_at_call 5; with_reducible refine (unhide CD _ (unhide K3)).mono ?_; rintro e w5' ⟨k0', k1', ta', tn', tc', la', ln', lc', rfl, h5'⟩; have K5' := hide ((unhide K3).nextA (unhide h5') (.cells #[.int .i64 k0', .int .i64 k1', .slice ta' tn' tc', .slice la' ln' lc'] 27)); have d0' := (unhide K5').c0; have d1' := (unhide K5').c1)
    | (go_at_call 5; with_reducible refine (unhide CD2 _ (unhide K5')).mono ?_; rintro e w5'' ⟨k0'', k1'', ta'', tn'', tc'', la'', ln'', lc'', rfl, h5''⟩; have K5'' := hide ((unhide K5').nextA (unhide h5'') (.cells #[.int .i64 k0'', .int .i64 k1'', .slice ta'' tn'' tc'', .slice la'' ln'' lc''] 27)); have d0'' := (unhide K5'').c0; have d1'' := (unhide K5'').c1))
  go_ret
  exact ⟨rfl, hide (unhide K5'').bel⟩
end Go.Proofs.YtfgemcmiilbodaaDoor
