/- wakes. -/
import Derived.Test.YtidfbelckdlbhaaDoorLxa
import Derived.Test.YtidfbelckdlbhaaDoorGlc
import Derived.Test.YtidfbelckdlbhaaDoorWin
import Derived.Lib.SlBytesConst
namespace Go.Proofs.YtidfbelckdlbhaaDoor
open Go.ChangeShapes Go.WideShapes Go.ChangeAt Go.RowKit
set_option linter.unusedVariables false
set_option maxRecDepth 20000

theorem lit_bytes (W : World) (l : List Nat) (fr : Nat × Nat) : Bytes (W.alloc (.cells (cellsOf l).toArray 5 fr)) (some ⟨W.heap.size, 0, none⟩) l := by
  refine .inr ⟨W.heap.size, 0, rfl, by simp, fun i hi => ?_⟩
  rw [Nat.zero_add, cell_of_row _ _ i _ _ _ (heap_alloc_new W (.cells (cellsOf l).toArray 5 fr))]
  have := cellsOf_at l i hi
  simpa using this
theorem win_wakes : Larder.winI 0 (-1) 5 = (0, 5) := by decide
theorem score_wakes : Larder.scoreRes [40, 45, 55] = ((0, -7, true), 0) := by decide
theorem lex_wakes : Larder.lexRes [97] = ((0, [], false), 91) := by decide
theorem star_wakes (t : List Nat) : Larder.Meets (Larder.parse [42]) t := ⟨t, [], by simp, rfl⟩

set_option maxHeartbeats 1000000 in
theorem wakes_any (w : World) : Calls Tryd.prog 4 #[] w fun e w' => e = .returned (.bool true) ∧ Below w.heap.size w w' := by
  have kc := fun (w : World) (C : Array Value) (n c : Nat) => Lib.run_convert_bytes_const (P := Tryd.prog) w 22 5 C n c Tryd.underlying22 Tryd.underlying5
  have H1 : Hid (Calls Tryd.prog 11 #[.int .i64 0, .int .i64 (-1), .int .i64 5] w fun e w' => e = .returned (.tuple #[.int .i64 0, .int .i64 5]) ∧ w' = w) := hide (by
    have := window_any 0 (-1) 5 w (by omega) (by omega) (by omega) (by omega) (by omega) (by omega)
    rw [win_wakes] at this
    exact this)
  have hb1 : Below w.heap.size w (w.alloc (.cells #[.int .u8 40, .int .u8 45, .int .u8 55] 5 (3, 4))) := (Below.refl _ _).alloc (Nat.le_refl _) _
  have H2 : Hid (Calls Tryd.prog 6 #[.slice (some ⟨w.heap.size, 0, none⟩) 3 3] (w.alloc (.cells #[.int .u8 40, .int .u8 45, .int .u8 55] 5 (3, 4))) fun e w' => e = .returned (.tuple #[.agg #[.int .i64 0, .int .i64 (-7), .bool true], .int .i64 0]) ∧ Below w.heap.size w w') := hide (by
    have := score_any (some ⟨w.heap.size, 0, none⟩) 3 _ [40, 45, 55] (by simp) (small_lit _ rfl) (by simp) (by omega) (lit_bytes w [40, 45, 55] (3, 4))
    rw [score_wakes] at this
    exact this.mono (fun e w' ⟨h1, h2⟩ => ⟨h1, chain hb1 h2 (Nat.le_refl _)⟩))
  clear hb1
  go_enter Tryd.func4, Tryd.ntmps4
  go_wp2_with fail
  refine (unhide H1).mono ?_
  rintro e w1 ⟨rfl, hw1⟩
  obtain rfl := hw1.symm
  go_wp2_with fail
  refine (unhide H2).mono ?_
  rintro e w2 ⟨rfl, hb2⟩
  have hb3 : Below w.heap.size w (w2.alloc (.cells #[.int .i64 0, .int .i64 (-7), .bool true] 24)) := chain hb2 ((Below.refl _ _).alloc (Nat.le_refl _) _) (Nat.le_refl _)
  have hx : (w2.alloc (.cells #[.int .i64 0, .int .i64 (-7), .bool true] 24)).heap[w2.heap.size]? = some (.cells #[.int .i64 0, .int .i64 (-7), .bool true] 24 (0, 0)) := heap_alloc_new _ _
  have hs3 : (w2.alloc (.cells #[.int .i64 0, .int .i64 (-7), .bool true] 24)).heap.size = w2.heap.size + 1 := by simp
  have H3 := lex_any (some ⟨(w2.alloc (.cells #[.int .i64 0, .int .i64 (-7), .bool true] 24)).heap.size, 0, none⟩) 1 _ [97] (by simp) (small_lit _ rfl) (by simp) (lit_bytes (w2.alloc (.cells #[.int .i64 0, .int .i64 (-7), .bool true] 24)) [97] (1, 2))
  have kc2 := kc (w2.alloc (.cells #[.int .i64 0, .int .i64 (-7), .bool true] 24)) #[.int .u8 97] 1 1
  rw [lex_wakes] at H3
  rw [hs3] at H3 kc2
  have hb4 : Below (w2.heap.size + 1) (w2.alloc (.cells #[.int .i64 0, .int .i64 (-7), .bool true] 24)) ((w2.alloc (.cells #[.int .i64 0, .int .i64 (-7), .bool true] 24)).alloc (.cells (cellsOf [97]).toArray 5 (1, 2))) := (Below.refl _ _).alloc (by simp) _
  have HH3 : Hid (Calls Tryd.prog 9 #[.slice (some ⟨w2.heap.size + 1, 0, none⟩) 1 1] ((w2.alloc (.cells #[.int .i64 0, .int .i64 (-7), .bool true] 24)).alloc (.cells #[.int .u8 97] 5 (1, 2))) fun e w' => ∃ a2 c2, e = .returned (.tuple #[.agg #[.int .i64 0, .slice a2 0 c2, .bool false], .int .i64 91]) ∧ w2.heap.size < w'.heap.size ∧ Hid (w'.heap[w2.heap.size]? = some (.cells #[.int .i64 0, .int .i64 (-7), .bool true] 24 (0, 0)) ∧ Below w.heap.size w w')) := hide (H3.mono (by
    rintro e w' ⟨v, rfl, h2, h3⟩
    obtain ⟨a2, c2, rfl, _, _⟩ := h2.shape
    have hsz : ((w2.alloc (.cells #[.int .i64 0, .int .i64 (-7), .bool true] 24)).alloc (.cells (cellsOf [97]).toArray 5 (1, 2))).heap.size = w2.heap.size + 2 := by simp
    refine ⟨a2, c2, rfl, ?_, hide ⟨?_, ?_⟩⟩
    · have := h3.size
      rw [hsz] at this; omega
    · exact (h3.block w2.heap.size (by rw [hsz]; omega)).trans ((hb4.block w2.heap.size (by omega)).trans hx)
    · have hh : Below w.heap.size w ((w2.alloc (.cells #[.int .i64 0, .int .i64 (-7), .bool true] 24)).alloc (.cells (cellsOf [97]).toArray 5 (1, 2))) := hb3.trans (hb4.mono (by have := hb2.size; omega))
      exact chain hh h3 (Nat.le_refl _)))
  clear hb2 hb3 hx hs3 H3 hb4 H1 H2
  go_wp2_with fail
  refine (unhide HH3).mono ?_
  rintro e w4 ⟨a2, c2, rfl, hs4, hO4⟩
  clear kc2
  have kc3 := kc (w4.alloc (.cells #[.int .i64 0, .slice a2 0 c2, .bool false] 26)) #[.int .u8 42] 1 1
  have kc4 := kc ((w4.alloc (.cells #[.int .i64 0, .slice a2 0 c2, .bool false] 26)).alloc (.cells #[.int .u8 42] 5 (1, 2))) #[.int .u8 97, .int .u8 98, .int .u8 99] 3 3
  have hs5 : (w4.alloc (.cells #[.int .i64 0, .slice a2 0 c2, .bool false] 26)).heap.size = w4.heap.size + 1 := by simp
  have hs6 : ((w4.alloc (.cells #[.int .i64 0, .slice a2 0 c2, .bool false] 26)).alloc (.cells #[.int .u8 42] 5 (1, 2))).heap.size = w4.heap.size + 1 + 1 := by simp
  have hB42 := lit_bytes (w4.alloc (.cells #[.int .i64 0, .slice a2 0 c2, .bool false] 26)) [42] (1, 2)
  have hBabc := lit_bytes ((w4.alloc (.cells #[.int .i64 0, .slice a2 0 c2, .bool false] 26)).alloc (.cells #[.int .u8 42] 5 (1, 2))) [97, 98, 99] (3, 4)
  have hB42' := hB42.below ((Below.refl _ _).alloc (Nat.le_refl _) (.cells (cellsOf [97, 98, 99]).toArray 5 (3, 4)))
  have HG := glob_any _ _ 1 3 _ [42] [97, 98, 99] (by simp) (by simp) (small_lit _ rfl) (small_lit _ rfl) hB42' hBabc
  rw [hs5] at kc3 HG
  have hs6' : ((w4.alloc (.cells #[.int .i64 0, .slice a2 0 c2, .bool false] 26)).alloc (.cells (cellsOf [42]).toArray 5 (1, 2))).heap.size = w4.heap.size + 1 + 1 := by simp
  have hb6 : Below w4.heap.size w4 (((w4.alloc (.cells #[.int .i64 0, .slice a2 0 c2, .bool false] 26)).alloc (.cells #[.int .u8 42] 5 (1, 2))).alloc (.cells #[.int .u8 97, .int .u8 98, .int .u8 99] 5 (3, 4))) := (((Below.refl _ _).alloc (Nat.le_refl _) _).alloc (by simp) _).alloc (by simp; omega) _
  have hs7 : (((w4.alloc (.cells #[.int .i64 0, .slice a2 0 c2, .bool false] 26)).alloc (.cells #[.int .u8 42] 5 (1, 2))).alloc (.cells #[.int .u8 97, .int .u8 98, .int .u8 99] 5 (3, 4))).heap.size = w4.heap.size + 3 := by simp
  have HH5 : Hid (Calls Tryd.prog 12 #[.slice (some ⟨w4.heap.size + 1, 0, none⟩) 1 1, .slice (some ⟨w4.heap.size + 1 + 1, 0, none⟩) 3 3] (((w4.alloc (.cells #[.int .i64 0, .slice a2 0 c2, .bool false] 26)).alloc (.cells #[.int .u8 42] 5 (1, 2))).alloc (.cells #[.int .u8 97, .int .u8 98, .int .u8 99] 5 (3, 4))) fun e w' => e = .returned (.bool true) ∧ (w'.cell? ⟨w2.heap.size, 0, none⟩ = some (.int .i64 0) ∧ w'.cell? ⟨w2.heap.size, 1, none⟩ = some (.int .i64 (-7)) ∧ w'.cell? ⟨w2.heap.size, 2, none⟩ = some (.bool true) ∧ w'.frozen? ⟨w2.heap.size, 0, none⟩ = false ∧ w'.frozen? ⟨w2.heap.size, 1, none⟩ = false ∧ w'.frozen? ⟨w2.heap.size, 2, none⟩ = false) ∧ Hid (Below w.heap.size w w')) := hide (by
    rw [hs6] at HG
    refine HG.mono ?_
    rintro e w' ⟨r, rfl, h2, h3⟩
    have hr : r = true := h2.2 (star_wakes _)
    subst hr
    have h4 := (unhide hO4).1
    have h5 := (h3.block w2.heap.size (by have := hs7; show _ < (((w4.alloc (.cells #[.int .i64 0, .slice a2 0 c2, .bool false] 26)).alloc (.cells #[.int .u8 42] 5 (1, 2))).alloc (.cells #[.int .u8 97, .int .u8 98, .int .u8 99] 5 (3, 4))).heap.size; omega)).trans ((hb6.block w2.heap.size hs4).trans h4)
    exact ⟨rfl, cells3 h5, hide (chain ((unhide hO4).2.trans (hb6.mono (unhide hO4).2.size)) h3 (Nat.le_refl _))⟩)
  rw [hs6] at kc4
  have kc4 : (convert 22 22 (.slice (some ⟨w4.heap.size + 1 + 1, 0, none⟩) 3 3)).run Tryd.prog (((w4.alloc (.cells #[.int .i64 0, .slice a2 0 c2, .bool false] 26)).alloc (.cells #[.int .u8 42] 5 (1, 2))).alloc (.cells #[.int .u8 97, .int .u8 98, .int .u8 99] 5)) = .ok (.slice (some ⟨w4.heap.size + 1 + 1, 0, none⟩) 3 3) (((w4.alloc (.cells #[.int .i64 0, .slice a2 0 c2, .bool false] 26)).alloc (.cells #[.int .u8 42] 5 (1, 2))).alloc (.cells #[.int .u8 97, .int .u8 98, .int .u8 99] 5 (3, 4))) := kc4
  clear hB42 hBabc hB42' HG hs5 hs6 hs6' hb6 hs7 kc
  go_wp2_with fail
  refine (unhide HH5).mono ?_
  rintro e w7 ⟨rfl, ⟨k1, k2, k3, k4, k5, k6⟩, hB⟩
  go_wp2
  go_ret
  exact ⟨rfl, unhide hB⟩
end Go.Proofs.YtidfbelckdlbhaaDoor
