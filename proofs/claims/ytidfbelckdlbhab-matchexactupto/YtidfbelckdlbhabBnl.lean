/- bounds: Lex. -/
import Derived.Test.YtidfbelckdlbhabRlx
import Derived.Test.YtidfbelckdlbhabInx
import Derived.Test.YtidfbelckdlbhabHld
import Derived.Test.YtidfbelckdlbhabCpE
namespace Go.Proofs.Ytidfbelckdlbhab
open Go.ChangeShapes Go.WideShapes Go.ChangeAt Go.RowKit
set_option linter.unusedVariables false
set_option maxRecDepth 20000
set_option maxHeartbeats 2000000

theorem OwnB.bytes {w : World} {base : Nat} {v : Value} {l : List Nat} (h : OwnB w base v l) : ∃ a c, v = .slice a l.length c ∧ Bytes w a l := by
  rcases h.2 with ⟨rfl, h0⟩ | ⟨g, cap, cur, rfl, hb, hg, h1, h2, h3, h4⟩
  · have : l = [] := List.eq_nil_of_length_eq_zero h0
    subst this
    exact ⟨none, 0, rfl, .inl rfl⟩
  · refine ⟨_, _, rfl, .inr ⟨g, 0, rfl, ?_, fun i hi => ?_⟩⟩
    · rcases Nat.lt_or_ge g w.heap.size with q | q
      · exact q
      · rw [Array.getElem?_eq_none q] at hg
        cases hg
    · have := World.ownsRow.cellAt (h := h) i (by omega)
      rw [Nat.zero_add, this]
      unfold cellsOf
      rw [List.getElem?_map, List.getElem?_eq_getElem hi, List.getD_eq_getElem?_getD, List.getElem?_eq_getElem hi]
      rfl
theorem lexRes_len (l : List Nat) : (Larder.lexRes l).1.2.1.length ≤ l.length := by
  unfold Larder.lexRes
  (repeat' split) <;> simp

theorem bounds_lex {aP : Option Addr} {cP : Nat} {P : List Nat} (v2 v3 v4 v5 v6 v7 v8 v9 v10 v11 v12 v13 v14 v15 v16 v17 : Value) (w : World) (hP : InB w aP cP P) :
    Calls Try.prog 18 #[.agg #[.int .i64 4, .slice aP P.length cP, v2, v3, v4, v5, v6, v7, v8, v9, v10, v11, v12, v13, v14, v15, v16, v17]] w fun e w' => e = .returned (.bool true) ∧ Below w.heap.size w w' := by
  obtain ⟨bP, sP, q1, q2, q3, q4⟩ := hP
  have hb0 : Below w.heap.size w (w.alloc (.cells #[.int .i64 4, .slice aP P.length cP, v2, v3, v4, v5, v6, v7, v8, v9, v10, v11, v12, v13, v14, v15, v16, v17] 34)) := (Below.refl _ _).alloc (Nat.le_refl _) _
  have H1 := hide (twin_any (w := w.alloc (.cells #[.int .i64 4, .slice aP P.length cP, v2, v3, v4, v5, v6, v7, v8, v9, v10, v11, v12, v13, v14, v15, v16, v17] 34)) aP cP P (by omega) (bP.below hb0) q4)
  have hlen := lexRes_len P
  have HM : Hid ((Larder.lexRes P).1.2.1.length ≤ 140737488355328) := hide (by omega)
  have H2 : Hid (∀ W a' c', Bytes W a' P → P.length ≤ c' → c' ≤ 140737488355328 → Calls Try.prog 12 #[.slice a' P.length c'] W fun e w' => ∃ a2 c2, e = .returned (.tuple #[.agg #[.int .i64 (Larder.lexRes P).1.1, .slice a2 (Larder.lexRes P).1.2.1.length c2, .bool (Larder.lexRes P).1.2.2], .int .i64 ((Larder.lexRes P).2 : Nat)]) ∧ Hid (Bytes w' a2 (Larder.lexRes P).1.2.1 ∧ Below W.heap.size W w')) := hide (fun W a' c' h1 h2 h3 => (lex_any a' c' W P (by omega) sP h2 h1).mono (fun e w' ⟨v, g1, g2, g3⟩ => by
    obtain ⟨a2, c2, rfl, g4⟩ := g2.bytes
    exact ⟨a2, c2, g1, hide ⟨g4, g3⟩⟩))
  have H3 : Hid (∀ W, Below w.heap.size w W → Calls Try.prog 31 #[.slice aP P.length cP] W fun e w' => ∃ a2 c2, e = .returned (.tuple #[.agg #[.int .i64 (Larder.lexRes P).1.1, .slice a2 (Larder.lexRes P).1.2.1.length c2, .bool (Larder.lexRes P).1.2.2], .int .i64 ((Larder.lexRes P).2 : Nat)]) ∧ Hid (Bytes w' a2 (Larder.lexRes P).1.2.1 ∧ Below W.heap.size W w')) := hide (fun W hW => (rlex_any aP cP W P (by omega) sP q1 (bP.below hW)).mono (fun e w' ⟨a2, c2, g1, g2, g3⟩ => ⟨a2, c2, g1, hide ⟨g2, g3⟩⟩))
  clear hlen
  generalize Larder.lexRes P = R at *
  obtain ⟨⟨fa, m, op⟩, er⟩ := R
  have H4 : Hid (∀ W a1 c1 a2 c2, Bytes W a1 m → Bytes W a2 m → Calls Try.prog 32 #[.agg #[.int .i64 fa, .slice a1 m.length c1, .bool op], .agg #[.int .i64 fa, .slice a2 m.length c2, .bool op]] W fun e w' => e = .returned (.bool true) ∧ Below W.heap.size W w') := hide (fun W a1 c1 a2 c2 h1 h2 => samelex_any fa op W (unhide HM) h1 h2)
  have G0 := hide (heap_alloc_new w (.cells #[.int .i64 4, .slice aP P.length cP, v2, v3, v4, v5, v6, v7, v8, v9, v10, v11, v12, v13, v14, v15, v16, v17] 34))
  have HB0 := hide hb0
  clear bP sP q1 q2 q3 q4 hb0
  have HT : Hid (∀ e w', TwinEnd P (w.alloc (.cells #[.int .i64 4, .slice aP P.length cP, v2, v3, v4, v5, v6, v7, v8, v9, v10, v11, v12, v13, v14, v15, v16, v17] 34)) e w' → ∃ a' cap', e = .returned (.slice a' P.length cap') ∧ Hid (Bytes w' a' P ∧ (P.length ≤ cap' ∧ cap' ≤ 140737488355328) ∧ Below (w.alloc (.cells #[.int .i64 4, .slice aP P.length cP, v2, v3, v4, v5, v6, v7, v8, v9, v10, v11, v12, v13, v14, v15, v16, v17] 34)).heap.size (w.alloc (.cells #[.int .i64 4, .slice aP P.length cP, v2, v3, v4, v5, v6, v7, v8, v9, v10, v11, v12, v13, v14, v15, v16, v17] 34)) w')) := hide (fun e w' ⟨a', c', h1, h2, h3, _, h5⟩ => ⟨a', c', h1, hide ⟨h2, h3, h5⟩⟩)
  dsimp only at H2 H3
  generalize hn : P.length = n at *
  clear hn
  go_enter Try.func18, Try.ntmps18
  go_wp2_with fail
  refine (unhide H1).mono ?_
  intro e w1 he
  obtain ⟨a', c', rfl, hh⟩ := unhide HT e w1 he
  clear he
  obtain ⟨hB1, ⟨z1, z2⟩, hb1⟩ := unhide hh
  have H2' := hide (unhide H2 w1 a' c' hB1 z1 z2)
  have Hb1 := hide hb1
  clear hB1 z1 z2 hb1 hh
  go_wp2_with fail
  refine (unhide H2').mono ?_
  rintro e w2 ⟨a2, c2, rfl, hh2⟩
  obtain ⟨hM2, hb2⟩ := unhide hh2
  have hb02 := chain (unhide Hb1) hb2 (Nat.le_refl _)
  have hbw2 : Below w.heap.size w w2 := chain (unhide HB0) hb02 (Nat.le_refl _)
  have hr2 := (hb02.block w.heap.size (by simp)).trans (unhide G0)
  have x1 : w2.cell? ⟨w.heap.size, 1, none⟩ = some (.slice aP n cP) := by rw [cell_of_row _ _ _ _ _ _ hr2]; rfl
  have hlt2 : w.heap.size < w2.heap.size := by have := hb02.size; simp at this; omega
  have y1 : (w2.alloc (.cells #[.int .i64 fa, .slice a2 m.length c2, .bool op] 32)).cell? ⟨w.heap.size, 1, none⟩ = some (.slice aP n cP) := (((Below.refl w2.heap.size w2).alloc (Nat.le_refl _) _).cell (p := ⟨w.heap.size, 1, none⟩) hlt2).trans x1
  clear x1
  have HB2 := hide hbw2
  have HL2 := hide hlt2
  have HM2 := hide hM2
  clear hb2 hb02 hbw2 hr2 hlt2 hM2 hh2
  go_wp2_with fail
  refine (unhide H3 _ ((unhide HB2).alloc (unhide HB2).size _)).mono ?_
  rintro e w4 ⟨a4, c4, rfl, hh4⟩
  obtain ⟨hM4, hb4⟩ := unhide hh4
  have hr4 := (hb4.block w2.heap.size (by simp)).trans (heap_alloc_new w2 _)
  have hlt4 : w2.heap.size < w4.heap.size := by have := hb4.size; simp at this; omega
  have hr5 := (((Below.refl w4.heap.size w4).alloc (Nat.le_refl _) (.cells #[.int .i64 fa, .slice a4 m.length c4, .bool op] 32)).block w2.heap.size hlt4).trans hr4
  obtain ⟨k1, k2, k3, _, _, _⟩ := cells3 hr5
  have HB4 := hide (chain ((unhide HB2).alloc (unhide HB2).size _) hb4 (Nat.le_refl _))
  have H4' := hide (unhide H4 (w4.alloc (.cells #[.int .i64 fa, .slice a4 m.length c4, .bool op] 32)) a2 c2 a4 c4 ((((unhide HM2).below ((Below.refl _ _).alloc (Nat.le_refl _) _)).below hb4).below ((Below.refl _ _).alloc (Nat.le_refl _) _)) (hM4.below ((Below.refl _ _).alloc (Nat.le_refl _) _)))
  clear hb4 hr4 hr5 hlt4 hM4 hh4
  go_wp2_with fail
  refine (unhide H4').mono ?_
  rintro e w6 ⟨rfl, hb6⟩
  go_wp2
  go_ret
  exact ⟨rfl, chain ((unhide HB4).alloc (unhide HB4).size _) hb6 (Nat.le_refl _)⟩
end Go.Proofs.Ytidfbelckdlbhab
