/- WireTaken: the law's walk where what is there is wrong. -/
import Derived.Test.YtfgemcmiilbodaaDoorTkd
import Derived.Deep.DeepCutAuto
namespace Go.Proofs.YtfgemcmiilbodaaDoor
open Go.ChangeShapes Go.WideShapes Go.ChangeAt Go.RowKit
set_option linter.unusedVariables false
set_option linter.unusedSimpArgs false
set_option maxRecDepth 100000
set_option maxHeartbeats 8000000

theorem step_world {P : Program} {o : Oper} {a : Act} {K : Act → World → Prop} {Q : Exit → Act → World → Prop} {c E : Prop} [Decidable c] (w : World) (h : if c then Oper.wp P o a w K Q else E) : if c then Oper.wp P o a w K Q else E := h
theorem Small.app {l m : List Nat} (hl : Small l) (hm : Small m) : Small (l ++ m) := fun i hi => by
  rw [List.getD_eq_getElem?_getD]
  by_cases q : i < l.length
  · rw [List.getElem?_append_left q, ← List.getD_eq_getElem?_getD]; exact hl i q
  · rw [List.getElem?_append_right (by omega), ← List.getD_eq_getElem?_getD]; exact hm _ (by simp at hi; omega)
theorem taken_wrong (W : World) (b off n cp : Nat) (D M : List Nat) (ma : Option Addr) (mp : Nat) (hU : UOk W) (hD : DecIn W (some ⟨b, off, none⟩) n cp D) (hM : DecIn W ma M.length mp M) (hn : n ≤ 1048576) (hm : M.length ≤ 1048576) (hP : repP 9 D = .wrong) (h0 : 0 < n) :
    Calls Tryd.prog 3 #[.agg #[.slice (some ⟨b, off, none⟩) n cp, .slice ma M.length mp]] W (TkEnd W) := by
  have K0 := hide (TkAt.new W (some ⟨b, off, none⟩) n cp ma M.length mp)
  have CL : Hid (Calls Tryd.prog 5 #[.slice (some ⟨W.heap.size + 1, 0, none⟩) 6 6] ((W.alloc (.cells #[.slice (some ⟨b, off, none⟩) n cp, .slice ma M.length mp] 24)).alloc (.cells #[.int .u8 58, .int .u8 45, .int .u8 53, .int .u8 13, .int .u8 10, .int .u8 58] 5 (6, 7))) fun e w' => ∃ (k0 : Int) (ta : Option Addr) (tn tc : Nat) (la : Option Addr) (ln lc : Nat), e = .returned (.tuple #[.agg #[.int .i64 k0, .int .i64 (-5), .slice ta tn tc, .slice la ln lc], .int .i64 5, .int .i64 0]) ∧ Hid (TkAt W w' (some ⟨b, off, none⟩) n cp ma M.length mp)) := hide (by
    have h := dec_five (W.alloc (.cells #[.slice (some ⟨b, off, none⟩) n cp, .slice ma M.length mp] 24)) (UOk.below _ _ hU (TkAt.new W (some ⟨b, off, none⟩) n cp ma M.length mp).bel)
    have e1 : (W.alloc (.cells #[.slice (some ⟨b, off, none⟩) n cp, .slice ma M.length mp] 24)).heap.size = W.heap.size + 1 := World.size_alloc _ _
    rw [e1] at h
    exact h.mono (fun e w' ⟨k0, ta, tn, tc, la, ln, lc, h1, h2⟩ => ⟨k0, ta, tn, tc, la, ln, lc, h1, hide ((TkAt.new W (some ⟨b, off, none⟩) n cp ma M.length mp).next (by rw [e1]; exact unhide h2))⟩))
  have kc : (convert 22 22 (.slice (some ⟨W.heap.size + 1, 0, none⟩) 6 6)).run Tryd.prog ((W.alloc (.cells #[.slice (some ⟨b, off, none⟩) n cp, .slice ma M.length mp] 24)).alloc (.cells #[.int .u8 58, .int .u8 45, .int .u8 53, .int .u8 13, .int .u8 10, .int .u8 58] 5)) = .ok (.slice (some ⟨W.heap.size + 1, 0, none⟩) 6 6) ((W.alloc (.cells #[.slice (some ⟨b, off, none⟩) n cp, .slice ma M.length mp] 24)).alloc (.cells #[.int .u8 58, .int .u8 45, .int .u8 53, .int .u8 13, .int .u8 10, .int .u8 58] 5 (6, 7))) := by
    have := Lib.run_convert_bytes_const (P := Tryd.prog) (W.alloc (.cells #[.slice (some ⟨b, off, none⟩) n cp, .slice ma M.length mp] 24)) 22 5 #[.int .u8 58, .int .u8 45, .int .u8 53, .int .u8 13, .int .u8 10, .int .u8 58] 6 6 Tryd.underlying22 Tryd.underlying5
    rw [World.size_alloc] at this
    exact this
  have CN : Hid (∀ V (y : Int), Calls Tryd.prog 6 #[.int .i64 y] V fun e w' => e = .returned (.int .i64 y) ∧ V = w') := hide (fun V y => (num_any V y).mono (fun e w' h => ⟨h.1, h.2.symm⟩))
  have CD : Hid (∀ V, TkAt W V (some ⟨b, off, none⟩) n cp ma M.length mp → Calls Tryd.prog 5 #[.slice (some ⟨b, off, none⟩) n cp] V fun e w' => ∃ (k0 k1 : Int) (ta : Option Addr) (tn tc : Nat) (la : Option Addr) (ln lc : Nat), e = .returned (.tuple #[.agg #[.int .i64 k0, .int .i64 k1, .slice ta tn tc, .slice la ln lc], .int .i64 0, .int .i64 85]) ∧ Hid (Below V.heap.size V w')) := hide (fun V hV => dec_no (hD.below hV.bel) (UOk.below _ _ hU hV.bel) .wrong hP (fun x r e => by cases e))
  have CC : Hid (∀ V, TkAt W V (some ⟨b, off, none⟩) n cp ma M.length mp → Calls Tryd.prog 9 #[.slice (some ⟨b, off, none⟩) n cp] V fun e w' => ∃ g, e = .returned (.slice (some ⟨g, 0, none⟩) n n) ∧ w'.cell? ⟨W.heap.size, 0, none⟩ = some (.slice (some ⟨b, off, none⟩) n cp) ∧ w'.cell? ⟨W.heap.size, 1, none⟩ = some (.slice ma M.length mp) ∧ Hid ((TkAt W w' (some ⟨b, off, none⟩) n cp ma M.length mp) ∧ Gro V w' V.heap.size (.slice (some ⟨g, 0, none⟩) n n) n D ∧ W.heap.size < V.heap.size)) := hide (fun V hV => by
    have hl := hD.len
    have h := copyR_any (cap := cp) D (by omega) ((hD.below hV.bel).by')
    rw [← hl] at h
    refine h.mono (fun e w' ⟨h1, h2⟩ => ?_)
    have hk := hV.next (unhide h2).bel
    exact ⟨_, h1, hk.c0, hk.c1, hide ⟨hk, unhide h2, block_lt hV.box⟩⟩)
  have CM : Hid (∀ V, TkAt W V (some ⟨b, off, none⟩) n cp ma M.length mp → Bytes V ma M) := hide (fun V hV => (hM.below hV.bel).by')
  have hP2 : repP 9 (D ++ M) = .wrong := (repP_grows 9).bad D M hP
  have AP : Hid (∀ V w9 g v2 w2, (TkAt W w9 (some ⟨b, off, none⟩) n cp ma M.length mp) → Gro V w9 V.heap.size (.slice (some ⟨g, 0, none⟩) n n) n D → W.heap.size < V.heap.size → Rws w2 5 1 v2 (n + M.length) (fun k => if k < n then byV D k else byV M (k - n)) → Gw w9 w2 (.slice (some ⟨g, 0, none⟩) n n) v2 → ((TkAt W w2 (some ⟨b, off, none⟩) n cp ma M.length mp) ∧ Gro V w2 V.heap.size v2 (n + M.length) (D ++ M)) ∧ ∀ q O, w9.heap[q]? = some O → q ≠ g → w2.heap[q]? = some O) := hide (fun V w9 g v2 w2 k1 k2 k3 k4 k5 => by
    have hg := k2.app k4 k5
    refine ⟨⟨⟨k1.bel.trans ⟨k5.os, k5.tape, k5.output, k5.size, fun q hq => k5.oth q (Nat.lt_of_lt_of_le hq k1.bel.size) (fun e => ?_)⟩, (k5.oth _ (block_lt k1.box) (fun e => ?_)).trans k1.box⟩, hg⟩, fun q O hq hne => (k5.oth q (block_lt hq) (fun e => hne (by simpa [Value.ownBlock] using e.symm))).trans hq⟩
    · have := k2.own q e; omega
    · have := k2.own _ e; omega)
  have CD3 : Hid (∀ V w2 a2 c2, (TkAt W w2 (some ⟨b, off, none⟩) n cp ma M.length mp) ∧ Gro V w2 V.heap.size (.slice a2 (n + M.length) c2) (n + M.length) (D ++ M) → Calls Tryd.prog 5 #[.slice a2 (n + M.length) c2] w2 fun e w' => ∃ (k0 k1 : Int) (ta : Option Addr) (tn tc : Nat) (la : Option Addr) (ln lc : Nat), e = .returned (.tuple #[.agg #[.int .i64 k0, .int .i64 k1, .slice ta tn tc, .slice la ln lc], .int .i64 0, .int .i64 85]) ∧ Hid (Below w2.heap.size w2 w')) := hide (fun V w2 a2 c2 ⟨k1, k2⟩ => by
    have hl := k2.len
    have hrow := k2.row
    have hin : DecIn w2 a2 (n + M.length) c2 (D ++ M) := by
      obtain ⟨a3, c3, e3, hB3, _⟩ := Rws.bytes (l := D ++ M) (by rw [← hl]; exact hrow)
      rw [← hl] at e3
      cases e3
      rcases hrow with ⟨e, e0⟩ | ⟨g, cap, cur, e, hg, hnc, hcm, _⟩
      · omega
      · cases e
        exact ⟨hB3, hD.sm.app hM.sm, hl, hnc, by simp only [maxLen] at hcm; omega, by omega, fun b' off' e _ => by cases e; exact block_lt hg⟩
    exact dec_no hin (UOk.below _ _ hU k1.bel) .wrong hP2 (fun x r e => by cases e))
  obtain ⟨i5, hi5, hz5, hs5, hb5⟩ := info_partsS Tryd.info5s
  have DW : Hid (∀ V, TkAt W V (some ⟨b, off, none⟩) n cp ma M.length mp → (TkAt W V.drew (some ⟨b, off, none⟩) n cp ma M.length mp)) := hide (fun V h => h.next ⟨rfl, rfl, rfl, Nat.le_refl _, fun _ _ => rfl⟩)
  have g1 : decide ((0 : Int) < (n : Int)) = true := decide_eq_true (by omega)
  have g2 : decide (0 < n) = true := decide_eq_true (by omega)
  clear hU hD hP hP2 hM
  have CCz : Hid (∀ V, TkAt W V (some ⟨b, off, none⟩) n cp ma M.length mp → Calls Tryd.prog 9 #[.slice (some ⟨b, off, none⟩) n cp] (V.alloc (.cells #[.int .i64 0, .int .i64 0, .slice none 0 0, .slice none 0 0] 27)).drew fun e w' => ∃ g, e = .returned (.slice (some ⟨g, 0, none⟩) n n) ∧ w'.cell? ⟨W.heap.size, 0, none⟩ = some (.slice (some ⟨b, off, none⟩) n cp) ∧ w'.cell? ⟨W.heap.size, 1, none⟩ = some (.slice ma M.length mp) ∧ Hid ((TkAt W w' (some ⟨b, off, none⟩) n cp ma M.length mp) ∧ Gro (V.alloc (.cells #[.int .i64 0, .int .i64 0, .slice none 0 0, .slice none 0 0] 27)).drew w' (V.alloc (.cells #[.int .i64 0, .int .i64 0, .slice none 0 0, .slice none 0 0] 27)).drew.heap.size (.slice (some ⟨g, 0, none⟩) n n) n D ∧ W.heap.size < (V.alloc (.cells #[.int .i64 0, .int .i64 0, .slice none 0 0, .slice none 0 0] 27)).drew.heap.size) ∧ Hid (w'.heap[V.heap.size]? = some (.cells #[.int .i64 0, .int .i64 0, .slice none 0 0, .slice none 0 0] 27 (0, 0)) ∧ V.heap.size ≠ g ∧ W.heap.size < V.heap.size)) := hide (fun V hV => (unhide CC _ (unhide DW _ (hV.next ((Below.refl _ _).alloc (Nat.le_refl _) _)))).mono (fun e w' ⟨g, h1, h2, h3, h4⟩ => ⟨g, h1, h2, h3, h4, hide (by
    have hs : (V.alloc (.cells #[.int .i64 0, .int .i64 0, .slice none 0 0, .slice none 0 0] 27)).drew.heap.size = V.heap.size + 1 := World.size_alloc _ _
    have ho := (unhide h4).2.1.own g (by simp [Value.ownBlock])
    exact ⟨((unhide h4).2.1.bel.block V.heap.size (by omega)).trans (heap_alloc_new _ _), by omega, block_lt hV.box⟩)⟩))
  have ALT : Hid (∀ V w9 g, (TkAt W w9 (some ⟨b, off, none⟩) n cp ma M.length mp) ∧ Gro V w9 V.heap.size (.slice (some ⟨g, 0, none⟩) n n) n D ∧ W.heap.size < V.heap.size → ((TkAt W (w9.alloc (.cells #[.int .i64 0, .int .i64 0, .slice none 0 0, .slice none 0 0] 27)) (some ⟨b, off, none⟩) n cp ma M.length mp) ∧ Gro V (w9.alloc (.cells #[.int .i64 0, .int .i64 0, .slice none 0 0, .slice none 0 0] 27)) V.heap.size (.slice (some ⟨g, 0, none⟩) n n) n D ∧ W.heap.size < V.heap.size) ∧ w9.heap.size ≠ g) := hide (fun V w9 g ⟨k1, k2, k3⟩ => ⟨⟨k1.next ((Below.refl _ _).alloc (Nat.le_refl _) _), k2.below ((Below.refl _ _).alloc (Nat.le_refl _) _), k3⟩, by
    have := k2.row.lt g (by simp [Value.ownBlock]); omega⟩)
  have BXC : Hid (∀ (V : World) q, V.heap[q]? = some (.cells #[.int .i64 0, .int .i64 0, .slice none 0 0, .slice none 0 0] 27 (0, 0)) → (V.cell? ⟨q, 0, none⟩ = some (.int .i64 0) ∧ V.cell? ⟨q, 1, none⟩ = some (.int .i64 0) ∧ V.cell? ⟨q, 2, none⟩ = some (.slice none 0 0) ∧ V.cell? ⟨q, 3, none⟩ = some (.slice none 0 0)) ∧ (V.frozen? ⟨q, 0, none⟩ = false ∧ V.frozen? ⟨q, 1, none⟩ = false ∧ V.frozen? ⟨q, 2, none⟩ = false ∧ V.frozen? ⟨q, 3, none⟩ = false)) := hide (fun V q h => by
    refine ⟨⟨?_, ?_, ?_, ?_⟩, ?_, ?_, ?_, ?_⟩
    all_goals first | (rw [cell_of_row _ _ _ _ _ _ h]; rfl) | (simp only [World.frozen?, h]; simp))
  have S4 : Hid (∀ V q v0 v1 v2 v3, TkAt W V (some ⟨b, off, none⟩) n cp ma M.length mp → W.heap.size < q → TkAt W ((((V.setCell ⟨q, 0, none⟩ v0).setCell ⟨q, 1, none⟩ v1).setCell ⟨q, 2, none⟩ v2).setCell ⟨q, 3, none⟩ v3) (some ⟨b, off, none⟩) n cp ma M.length mp) := hide (fun V q v0 v1 v2 v3 h hq => by
    have hb : ∀ k, k ≠ q → ((((V.setCell ⟨q, 0, none⟩ v0).setCell ⟨q, 1, none⟩ v1).setCell ⟨q, 2, none⟩ v2).setCell ⟨q, 3, none⟩ v3).heap[k]? = V.heap[k]? := fun k hk => by
      rw [Bk.setCell_else _ _ _ _ _ hk, Bk.setCell_else _ _ _ _ _ hk, Bk.setCell_else _ _ _ _ _ hk, Bk.setCell_else _ _ _ _ _ hk]
    exact ⟨⟨h.bel.os, h.bel.tape, h.bel.output, by simpa using h.bel.size, fun k hk => (hb k (by omega)).trans (h.bel.block k hk)⟩, (hb _ (by omega)).trans h.box⟩)
  have CD4 : Hid (∀ V w2 a2 c2, (TkAt W w2 (some ⟨b, off, none⟩) n cp ma M.length mp) ∧ Gro V w2 V.heap.size (.slice a2 (n + M.length) c2) (n + M.length) (D ++ M) → Calls Tryd.prog 5 #[.slice a2 (n + M.length) c2] (w2.alloc (.cells #[.int .i64 0, .int .i64 0, .slice none 0 0, .slice none 0 0] 27)) fun e w' => ∃ (k0 k1 : Int) (ta : Option Addr) (tn tc : Nat) (la : Option Addr) (ln lc : Nat), e = .returned (.tuple #[.agg #[.int .i64 k0, .int .i64 k1, .slice ta tn tc, .slice la ln lc], .int .i64 0, .int .i64 85]) ∧ Hid (Below w2.heap.size w2 w') ∧ Hid (w'.heap[w2.heap.size]? = some (.cells #[.int .i64 0, .int .i64 0, .slice none 0 0, .slice none 0 0] 27 (0, 0)))) := hide (fun V w2 a2 c2 ⟨k1, k2⟩ => (unhide CD3 V (w2.alloc (.cells #[.int .i64 0, .int .i64 0, .slice none 0 0, .slice none 0 0] 27)) a2 c2 ⟨k1.next ((Below.refl _ _).alloc (Nat.le_refl _) _), k2.below ((Below.refl _ _).alloc (Nat.le_refl _) _)⟩).mono (fun e w' ⟨k0, k1, ta, tn, tc, la, ln, lc, h1, h2⟩ => ⟨k0, k1, ta, tn, tc, la, ln, lc, h1, hide (((Below.refl _ _).alloc (Nat.le_refl _) _).trans ((unhide h2).mono (by simp))), hide (((unhide h2).block w2.heap.size (by simp)).trans (heap_alloc_new _ _))⟩))
  have keepA : ∀ (V : World) (o : Obj), (V.cell? ⟨W.heap.size, 0, none⟩ = some (.slice (some ⟨b, off, none⟩) n cp) ∧ V.cell? ⟨W.heap.size, 1, none⟩ = some (.slice ma M.length mp)) → ((V.alloc o).cell? ⟨W.heap.size, 0, none⟩ = some (.slice (some ⟨b, off, none⟩) n cp) ∧ (V.alloc o).cell? ⟨W.heap.size, 1, none⟩ = some (.slice ma M.length mp)) := fun V o h => ⟨Lib.cell?_alloc_marked o h.1, Lib.cell?_alloc_marked o h.2⟩
  have keepS : ∀ (V : World) (q : Nat) (v0 v1 v2 v3 : Value), W.heap.size < q → (V.cell? ⟨W.heap.size, 0, none⟩ = some (.slice (some ⟨b, off, none⟩) n cp) ∧ V.cell? ⟨W.heap.size, 1, none⟩ = some (.slice ma M.length mp)) → (((((V.setCell ⟨q, 0, none⟩ v0).setCell ⟨q, 1, none⟩ v1).setCell ⟨q, 2, none⟩ v2).setCell ⟨q, 3, none⟩ v3).cell? ⟨W.heap.size, 0, none⟩ = some (.slice (some ⟨b, off, none⟩) n cp) ∧ ((((V.setCell ⟨q, 0, none⟩ v0).setCell ⟨q, 1, none⟩ v1).setCell ⟨q, 2, none⟩ v2).setCell ⟨q, 3, none⟩ v3).cell? ⟨W.heap.size, 1, none⟩ = some (.slice ma M.length mp)) := fun V q v0 v1 v2 v3 hq h => by
    have hne : ∀ i j : Nat, (⟨q, i, none⟩ : Addr) ≠ ⟨W.heap.size, j, none⟩ := fun i j e => by injection e with e1; omega
    refine ⟨?_, ?_⟩
    · rw [World.cell?_setCell_other _ _ _ _ (hne _ _), World.cell?_setCell_other _ _ _ _ (hne _ _), World.cell?_setCell_other _ _ _ _ (hne _ _), World.cell?_setCell_other _ _ _ _ (hne _ _)]; exact h.1
    · rw [World.cell?_setCell_other _ _ _ _ (hne _ _), World.cell?_setCell_other _ _ _ _ (hne _ _), World.cell?_setCell_other _ _ _ _ (hne _ _), World.cell?_setCell_other _ _ _ _ (hne _ _)]; exact h.2
  go_enter Tryd.func3, Tryd.ntmps3
  go_upto_region 18 with (first
    | (go_at_call 5; with_reducible refine (unhide CL).mono ?_; rintro e w3 ⟨k0, ta, tn, tc, la, ln, lc, rfl, h3⟩; have K3 := hide ((unhide h3).next ((Below.refl _ _).alloc (Nat.le_refl _) (.cells #[.int .i64 k0, .int .i64 (-5), .slice ta tn tc, .slice la ln lc] 27))); have c0 := (unhide K3).c0)
    | (go_at_call 6; with_reducible refine (unhide CN _ _).mono ?_; rintro e w6 ⟨rfl, h6⟩; subst h6)
    | (go_at_call 5; with_reducible refine (unhide CD _ (unhide K3)).mono ?_; rintro e w5' ⟨k0', k1', ta', tn', tc', la', ln', lc', rfl, h5'⟩; have K5' := hide ((unhide K3).nextA (unhide h5') (.cells #[.int .i64 k0', .int .i64 k1', .slice ta' tn' tc', .slice la' ln' lc'] 27)); have d0' := (unhide K5').c0; have d1' := (unhide K5').c1))
  go_cut [18, 19] (fun kv ev wx => kv = .int .i64 0 ∧ ev = .int .i64 85 ∧ Hid (TkAt W wx (some ⟨b, off, none⟩) n cp ma M.length mp))
  case first =>
    have dd2 := (unhide DW _ ((unhide K5').next ((Below.refl _ _).alloc (Nat.le_refl _) (.cells #[.int .i64 0, .int .i64 0, .slice none 0 0, .slice none 0 0] 27)))).c0
    have dd3 := (unhide DW _ ((unhide K5').next ((Below.refl _ _).alloc (Nat.le_refl _) (.cells #[.int .i64 0, .int .i64 0, .slice none 0 0, .slice none 0 0] 27)))).c1
    have dd0 := (unhide DW _ (unhide K5')).c0
    have dd1 := (unhide DW _ (unhide K5')).c1
    go_region_held3 (fun w' => w'.cell? ⟨W.heap.size, 0, none⟩ = some (.slice (some ⟨b, off, none⟩) n cp) ∧ w'.cell? ⟨W.heap.size, 1, none⟩ = some (.slice ma M.length mp)) (with_reducible first | exact ⟨dd0, dd1⟩ | exact ⟨dd2, dd3⟩ | exact ⟨e0, e1⟩ | exact ⟨y0, y1⟩ | exact ⟨y2, y3⟩ | exact keepA _ _ ⟨dd0, dd1⟩ | exact keepA _ _ ⟨e0, e1⟩ | exact keepA _ _ ⟨y0, y1⟩ | exact keepA _ _ ⟨y2, y3⟩ | exact keepS _ _ _ _ _ _ (unhide QL) ⟨y2, y3⟩ | exact keepS _ _ _ _ _ _ (unhide QL) (keepA _ _ ⟨y2, y3⟩)) (first
      | (go_at_call 9; first
        | (with_reducible refine (unhide CC _ (unhide DW _ (unhide K5'))).mono ?_; rintro e w9 ⟨g, rfl, e0, e1, h9⟩)
        | (with_reducible refine (unhide CCz _ (unhide K5')).mono ?_; rintro e w9 ⟨g, rfl, e0, e1, h9, BX9⟩))
      | (with_reducible refine step_world (w9.alloc (.cells #[.int .i64 0, .int .i64 0, .slice none 0 0, .slice none 0 0] 27)) ?_; refine step_append_bytes rfl _ _ 22 rfl i5 Tryd.underlying22 hi5 hz5 hs5 hb5 (.slice (some ⟨g, 0, none⟩) n n) n (byV D) rfl (unhide ALT _ _ _ (unhide h9)).1.2.1.row ma mp M rfl (unhide CM _ (unhide ALT _ _ _ (unhide h9)).1.1) (by omega) ?_; intro v2 w2 h2 gg2; have HA0 := hide (unhide AP _ _ _ _ _ (unhide ALT _ _ _ (unhide h9)).1.1 (unhide ALT _ _ _ (unhide h9)).1.2.1 (unhide h9).2.2 h2 gg2); have HA := hide (unhide HA0).1; have BX2 := hide (And.intro ((unhide HA0).2 _ _ (heap_alloc_new _ _) (unhide ALT _ _ _ (unhide h9)).2) (block_lt (unhide h9).1.box)); obtain ⟨a2, c2, rfl⟩ := h2.shape; have y0 := (unhide HA).1.c0; have y1 := (unhide HA).1.c1; clear h2 gg2)
      | (with_reducible refine step_world w9 ?_; refine step_append_bytes rfl _ _ 22 rfl i5 Tryd.underlying22 hi5 hz5 hs5 hb5 (.slice (some ⟨g, 0, none⟩) n n) n (byV D) rfl (unhide h9).2.1.row ma mp M rfl (unhide CM _ (unhide h9).1) (by omega) ?_; intro v2 w2 h2 gg2; have HA0 := hide (unhide AP _ _ _ _ _ (unhide h9).1 (unhide h9).2.1 (unhide h9).2.2 h2 gg2); have HA := hide (unhide HA0).1; have BX2 := hide (And.intro ((unhide HA0).2 _ _ (unhide BX9).1 (unhide BX9).2.1) (unhide BX9).2.2); obtain ⟨a2, c2, rfl⟩ := h2.shape; have y0 := (unhide HA).1.c0; have y1 := (unhide HA).1.c1; clear h2 gg2)
      | (with_reducible refine step_world w9 ?_; refine step_append_bytes rfl _ _ 22 rfl i5 Tryd.underlying22 hi5 hz5 hs5 hb5 (.slice (some ⟨g, 0, none⟩) n n) n (byV D) rfl (unhide h9).2.1.row ma mp M rfl (unhide CM _ (unhide h9).1) (by omega) ?_; intro v2 w2 h2 gg2; have HA0 := hide (unhide AP _ _ _ _ _ (unhide h9).1 (unhide h9).2.1 (unhide h9).2.2 h2 gg2); have HA := hide (unhide HA0).1; obtain ⟨a2, c2, rfl⟩ := h2.shape; have y0 := (unhide HA).1.c0; have y1 := (unhide HA).1.c1; clear h2 gg2)
      | (go_at_call 5; first
        | (with_reducible refine (unhide CD4 _ _ _ _ (unhide HA)).mono ?_; rintro e w5 ⟨k0, k1, ta, tn, tc, la, ln, lc, rfl, h5, BX⟩; have K6 := hide ((unhide HA).1.next (unhide h5)); have y2 := (unhide K6).c0; have y3 := (unhide K6).c1; have QL := hide (block_lt (unhide HA).1.box); obtain ⟨⟨z0, z1, z2, z3⟩, x0, x1, x2, x3⟩ := unhide BXC _ _ (unhide BX); try simp only [World.size_alloc] at z0 z1 z2 z3 x0 x1 x2 x3)
        | (with_reducible refine (unhide CD3 _ _ _ _ (unhide HA)).mono ?_; rintro e w5 ⟨k0, k1, ta, tn, tc, la, ln, lc, rfl, h5⟩; have BX := hide (((unhide h5).block _ (block_lt (unhide BX2).1)).trans (unhide BX2).1); have QL0 := (unhide BX2).2; (try simp only [World.size_alloc] at QL0); have QL := hide QL0; clear QL0; have K6 := hide ((unhide HA).1.next (unhide h5)); have y2 := (unhide K6).c0; have y3 := (unhide K6).c1; obtain ⟨⟨z0, z1, z2, z3⟩, x0, x1, x2, x3⟩ := unhide BXC _ _ (unhide BX); try simp only [World.size_alloc] at z0 z1 z2 z3 x0 x1 x2 x3)
        | (with_reducible refine (unhide CD3 _ _ _ _ (unhide HA)).mono ?_; rintro e w5 ⟨k0, k1, ta, tn, tc, la, ln, lc, rfl, h5⟩; have K6 := hide ((unhide HA).1.next (unhide h5)); have y2 := (unhide K6).c0; have y3 := (unhide K6).c1; have QL := hide (block_lt (unhide K6).box); obtain ⟨⟨z0, z1, z2, z3⟩, x0, x1, x2, x3⟩ := unhide BXC (w5.alloc (.cells #[.int .i64 0, .int .i64 0, .slice none 0 0, .slice none 0 0] 27)) _ (heap_alloc_new _ _))))
    all_goals go_wp2_with fail
    all_goals go_meet
    all_goals first
      | exact ⟨rfl, rfl, hide ((unhide K6).next ((Below.refl _ _).alloc (Nat.le_refl _) _))⟩
      | exact ⟨rfl, rfl, hide (unhide S4 _ _ _ _ _ _ (unhide K6) (unhide QL))⟩
      | exact ⟨rfl, rfl, hide (unhide S4 _ _ _ _ _ _ ((unhide K6).next ((Below.refl _ _).alloc (Nat.le_refl _) _)) (unhide QL))⟩
  case rest =>
    obtain ⟨rfl, rfl, KX⟩ := hcut
    have y4 := (unhide KX).c0
    go_wp2_with (first
      | (go_at_call 6; with_reducible refine (unhide CN _ _).mono ?_; rintro e w6 ⟨rfl, h6⟩; subst h6))
    go_ret
    exact ⟨rfl, hide (unhide KX).bel⟩
end Go.Proofs.YtfgemcmiilbodaaDoor
