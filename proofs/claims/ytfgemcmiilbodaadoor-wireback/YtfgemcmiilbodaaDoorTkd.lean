/- WireTaken: the law's walk where a reply is read. -/
import Derived.Test.YtfgemcmiilbodaaDoorTkc
namespace Go.Proofs.YtfgemcmiilbodaaDoor
open Go.ChangeShapes Go.WideShapes Go.ChangeAt Go.RowKit
set_option linter.unusedVariables false
set_option linter.unusedSimpArgs false
set_option maxRecDepth 100000
set_option maxHeartbeats 8000000

theorem taken_ok (W : World) (b off n p cp : Nat) (D r : List Nat) (x : Tr 9) (ma : Option Addr) (m mp : Nat) (hU : UOk W) (hT : Tab W) (hD : DecIn W (some ⟨b, off, none⟩) n cp D) (hn : n ≤ 1048576) (hP : repP 9 D = .ok x r) (hp : n = p + 1 + r.length) :
    Calls Tryd.prog 3 #[.agg #[.slice (some ⟨b, off, none⟩) n cp, .slice ma m mp]] W (TkEnd W) := by
  have K0 := hide (TkAt.new W (some ⟨b, off, none⟩) n cp ma m mp)
  have CL : Hid (Calls Tryd.prog 5 #[.slice (some ⟨W.heap.size + 1, 0, none⟩) 6 6] ((W.alloc (.cells #[.slice (some ⟨b, off, none⟩) n cp, .slice ma m mp] 24)).alloc (.cells #[.int .u8 58, .int .u8 45, .int .u8 53, .int .u8 13, .int .u8 10, .int .u8 58] 5 (6, 7))) fun e w' => ∃ (k0 : Int) (ta : Option Addr) (tn tc : Nat) (la : Option Addr) (ln lc : Nat), e = .returned (.tuple #[.agg #[.int .i64 k0, .int .i64 (-5), .slice ta tn tc, .slice la ln lc], .int .i64 5, .int .i64 0]) ∧ Hid (TkAt W w' (some ⟨b, off, none⟩) n cp ma m mp)) := hide (by
    have h := dec_five (W.alloc (.cells #[.slice (some ⟨b, off, none⟩) n cp, .slice ma m mp] 24)) (UOk.below _ _ hU (TkAt.new W (some ⟨b, off, none⟩) n cp ma m mp).bel)
    have e1 : (W.alloc (.cells #[.slice (some ⟨b, off, none⟩) n cp, .slice ma m mp] 24)).heap.size = W.heap.size + 1 := World.size_alloc _ _
    rw [e1] at h
    exact h.mono (fun e w' ⟨k0, ta, tn, tc, la, ln, lc, h1, h2⟩ => ⟨k0, ta, tn, tc, la, ln, lc, h1, hide ((TkAt.new W (some ⟨b, off, none⟩) n cp ma m mp).next (by rw [e1]; exact unhide h2))⟩))
  have kc : (convert 22 22 (.slice (some ⟨W.heap.size + 1, 0, none⟩) 6 6)).run Tryd.prog ((W.alloc (.cells #[.slice (some ⟨b, off, none⟩) n cp, .slice ma m mp] 24)).alloc (.cells #[.int .u8 58, .int .u8 45, .int .u8 53, .int .u8 13, .int .u8 10, .int .u8 58] 5)) = .ok (.slice (some ⟨W.heap.size + 1, 0, none⟩) 6 6) ((W.alloc (.cells #[.slice (some ⟨b, off, none⟩) n cp, .slice ma m mp] 24)).alloc (.cells #[.int .u8 58, .int .u8 45, .int .u8 53, .int .u8 13, .int .u8 10, .int .u8 58] 5 (6, 7))) := by
    have := Lib.run_convert_bytes_const (P := Tryd.prog) (W.alloc (.cells #[.slice (some ⟨b, off, none⟩) n cp, .slice ma m mp] 24)) 22 5 #[.int .u8 58, .int .u8 45, .int .u8 53, .int .u8 13, .int .u8 10, .int .u8 58] 6 6 Tryd.underlying22 Tryd.underlying5
    rw [World.size_alloc] at this
    exact this
  have CN : Hid (∀ V (y : Int), Calls Tryd.prog 6 #[.int .i64 y] V fun e w' => e = .returned (.int .i64 y) ∧ V = w') := hide (fun V y => (num_any V y).mono (fun e w' h => ⟨h.1, h.2.symm⟩))
  obtain ⟨q1, q2, q3, q4⟩ := repP_text 9 D x r hP
  have q5 : fitB 9 x 0 = true := q3 (Nat.le_refl _)
  have hlen := hD.len
  have eL : (encL 9 x).length = p + 1 := by
    have := congrArg List.length q1
    rw [List.length_append] at this
    omega
  have eT : encL 9 x = D.take (p + 1) := by rw [← q1, List.take_append_of_le_length (by omega), List.take_of_length_le (by omega)]
  have tlen : (D.take (p + 1)).length = p + 1 := by rw [← eT]; exact eL
  have hs : sz 9 x ≤ 16777216 := by
    have := fit_size 9 x 0 q5
    omega
  have CD : Hid (∀ V, TkAt W V (some ⟨b, off, none⟩) n cp ma m mp → Calls Tryd.prog 5 #[.slice (some ⟨b, off, none⟩) n cp] V fun e w' => ∃ (k0 k1 : Int) (ta : Option Addr) (tn tc : Nat) (la : Option Addr) (ln lc : Nat), e = .returned (.tuple #[.agg #[.int .i64 k0, .int .i64 k1, .slice ta tn tc, .slice la ln lc], .int .i64 ((p : Int) + 1), .int .i64 0]) ∧ Hid (Below V.heap.size V w' ∧ DrAt w' 9 (fun b => V.heap.size ≤ b) x (.int .i64 k0) (.int .i64 k1) (.slice ta tn tc) (.slice la ln lc))) := hide (fun V hV => dec_ok (hD.below hV.bel) (UOk.below _ _ hU hV.bel) p hP hp)
  have CE : Hid (∀ V, TkAt W V (some ⟨b, off, none⟩) n cp ma m mp → ∀ (S : Nat → Prop) (k0 k1 : Int) (ta : Option Addr) (tn tc : Nat) (la : Option Addr) (ln lc : Nat), DrAt V 9 S x (.int .i64 k0) (.int .i64 k1) (.slice ta tn tc) (.slice la ln lc) → Calls Tryd.prog 7 #[.agg #[.int .i64 k0, .int .i64 k1, .slice ta tn tc, .slice la ln lc]] V fun e w' => ∃ va vc, e = .returned (.tuple #[.slice va (p + 1) vc, .int .i64 0]) ∧ Hid (Below V.heap.size V w' ∧ Bytes w' va (D.take (p + 1)))) := hide (fun V hV S k0 k1 ta tn tc la ln lc h => (encode_any V (hT.below hV.bel) (UOk.below _ _ hU hV.bel) 9 x _ _ _ _ (h.rp 0 q5 q4) hs).mono (fun e w' ⟨va, vc, h1, h2⟩ => by
    have eo : outE 9 x = D.take (p + 1) := by unfold outE; rw [if_pos q5, eT]
    have ee : errE 9 x = 0 := by unfold errE; rw [if_pos q5]
    rw [eo, ee, tlen] at h1
    rw [eo, tlen] at h2
    have hg := unhide h2
    have hrow := hg.row
    obtain ⟨a2, c2, e2, hB2, _⟩ := Rws.bytes (l := D.take (p + 1)) (by rw [tlen]; exact hrow)
    rw [tlen] at e2
    cases e2
    exact ⟨va, vc, h1, hide ⟨hg.bel, hB2⟩⟩))
  have CQ : Hid (∀ V va vc, TkAt W V (some ⟨b, off, none⟩) n cp ma m mp → Bytes V va (D.take (p + 1)) → Calls Tryd.prog 8 #[.slice va (p + 1) vc, .slice (some ⟨b, off, none⟩) (p + 1) cp] V fun e w' => e = .returned (.bool true) ∧ Hid (Below V.heap.size V w')) := hide (fun V va vc hV hB => by
    have h := eq_any (c1 := vc) (c2 := cp) (by omega) (by omega) hB ((hD.below hV.bel).first (p + 1) (by omega)).by'
    rw [tlen] at h
    exact h.mono (fun e w' h => ⟨by rw [h.1]; simp, hide h.2.below⟩))
  have hP2 : repP 9 (D.take p) = .short := (repP_grows 9).cut (b := D.take p) (c := D.drop p) (by rw [List.take_append_drop]; exact hP) (by rw [List.length_drop]; omega)
  have CD2 : Hid (∀ V, TkAt W V (some ⟨b, off, none⟩) n cp ma m mp → Calls Tryd.prog 5 #[.slice (some ⟨b, off, none⟩) p cp] V fun e w' => ∃ (k0 k1 : Int) (ta : Option Addr) (tn tc : Nat) (la : Option Addr) (ln lc : Nat), e = .returned (.tuple #[.agg #[.int .i64 k0, .int .i64 k1, .slice ta tn tc, .slice la ln lc], .int .i64 0, .int .i64 86]) ∧ Hid (Below V.heap.size V w')) := hide (fun V hV => dec_no ((hD.below hV.bel).first p (by omega)) (UOk.below _ _ hU hV.bel) .short hP2 (fun x r e => by cases e))
  have hle := hD.le
  have htop := hD.top
  have g1 : (p : Int) + 1 - 1 = p := by omega
  have g2 : (0 : Int) ≤ (p : Int) := by omega
  have g3 : (p : Int) ≤ (cp : Int) := by omega
  have g4 : (p : Int) + 1 ≤ (cp : Int) := by omega
  have g5 : decide ((p : Int) + 1 < 1) = false := decide_eq_false (by omega)
  have g6 : decide ((n : Int) < (p : Int) + 1) = false := decide_eq_false (by omega)
  have g7 : p + 1 ≤ n := by omega
  clear hU hD hP hP2 hT q1 q2 q3 q4 q5 hlen eL eT tlen hs hp
  go_enter Tryd.func3, Tryd.ntmps3
  go_wp2_with (first
    | (go_at_call 5; with_reducible refine (unhide CL).mono ?_; rintro e w3 ⟨k0, ta, tn, tc, la, ln, lc, rfl, h3⟩; have K3 := hide ((unhide h3).next ((Below.refl _ _).alloc (Nat.le_refl _) (.cells #[.int .i64 k0, .int .i64 (-5), .slice ta tn tc, .slice la ln lc] 27))); have c0 := (unhide K3).c0)
    | (go_at_call 6; with_reducible refine (unhide CN _ _).mono ?_; rintro e w6 ⟨rfl, h6⟩; subst h6)
    | (go_at_call 5; with_reducible refine (unhide CD _ (unhide K3)).mono ?_; rintro e w5 ⟨k0', k1', ta', tn', tc', la', ln', lc', rfl, h5⟩; have K5 := hide ((unhide K3).nextA (unhide h5).1 (.cells #[.int .i64 k0', .int .i64 k1', .slice ta' tn' tc', .slice la' ln' lc'] 27)); have DR := hide ((unhide h5).2.same (w' := w5.alloc (.cells #[.int .i64 k0', .int .i64 k1', .slice ta' tn' tc', .slice la' ln' lc'] 27)) (fun b _ hb => heap_alloc_old _ _ hb)); have d0 := (unhide K5).c0)
    | (go_at_call 7; with_reducible refine (unhide CE _ (unhide K5) _ _ _ _ _ _ _ _ _ (unhide DR)).mono ?_; rintro e w7 ⟨va, vc, rfl, h7⟩; have K7 := hide ((unhide K5).next (unhide h7).1); have d7 := (unhide K7).c0)
    | (go_at_call 8; with_reducible refine (unhide CQ _ _ _ (unhide K7) (unhide h7).2).mono ?_; rintro e w8 ⟨rfl, h8⟩; have K8 := hide ((unhide K7).next (unhide h8)); have d8 := (unhide K8).c0)
    | (go_at_call 5; with_reducible refine (unhide CD2 _ (unhide K8)).mono ?_; rintro e w5'' ⟨k0'', k1'', ta'', tn'', tc'', la'', ln'', lc'', rfl, h5''⟩; have K5'' := hide ((unhide K8).nextA (unhide h5'') (.cells #[.int .i64 k0'', .int .i64 k1'', .slice ta'' tn'' tc'', .slice la'' ln'' lc''] 27)); have d0'' := (unhide K5'').c0; have d1'' := (unhide K5'').c1))
  go_ret
  exact ⟨rfl, hide (unhide K5'').bel⟩
end Go.Proofs.YtfgemcmiilbodaaDoor
