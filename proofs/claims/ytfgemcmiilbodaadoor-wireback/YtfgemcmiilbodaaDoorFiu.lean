/- fit: the walk. -/
import Derived.Test.YtfgemcmiilbodaaDoorFit
import Derived.BigQuiet
namespace Go.Proofs.YtfgemcmiilbodaaDoor
open Go.ChangeShapes Go.WideShapes Go.ChangeAt Go.RowKit
set_option linter.unusedVariables false
set_option linter.unusedSimpArgs false
set_option maxRecDepth 20000
set_option maxHeartbeats 8000000

theorem fit_walk (w : World) (k0 k1 : Int) (ta la : Option Addr) (T : List Nat) (tn tc ln lc i : Nat) (sub R : Bool) (hi : i ≤ 8) (ht0 : tn = T.length) (htn : tn ≤ 140737488351232) (hln : ln ≤ 140737488351232) (hR : R = fitK k0 k1 T ln sub)
    (CA : Hid (∀ W, Hid (Below w.heap.size w W) → tn ≤ 1024 → Calls Tryd.prog 22 #[.slice ta tn tc, .string ⟨#[13, 10]⟩] W fun e w' => e = .returned (.bool (crlf T)) ∧ Hid (Below w.heap.size w w')))
    (CL : Hid (∀ W, Hid (Below w.heap.size w W) → Calls Tryd.prog 23 #[.slice la ln lc, .int .i64 ((i : Int) + 1)] W fun e w' => e = .returned (.bool sub) ∧ Hid (Below w.heap.size w w'))) :
    Calls Tryd.prog 14 #[.agg #[.int .i64 k0, .int .i64 k1, .slice ta tn tc, .slice la ln lc], .int .i64 (i : Nat)] w fun e w' => e = .returned (.bool R) ∧ Below w.heap.size w w' := by
  have HR := hide hR
  have HT := hide ht0
  clear hR ht0
  obtain ⟨wb, hwb⟩ : ∃ wb, wb = w.alloc (.cells #[.int .i64 k0, .int .i64 k1, .slice ta tn tc, .slice la ln lc] 27) := ⟨_, rfl⟩
  have BB : Hid (∀ n, Below w.heap.size w (wb.drewN n)) := hide (fun n => by rw [hwb]; have h := (Below.refl w.heap.size w).alloc (Nat.le_refl _) (.cells #[.int .i64 k0, .int .i64 k1, .slice ta tn tc, .slice la ln lc] 27); exact ⟨h.os, h.tape, h.output, h.size, h.block⟩)
  have b0 : wb.cell? ⟨w.heap.size, 0, none⟩ = some (.int .i64 k0) := by rw [hwb, cell_of_row _ _ _ _ _ _ (heap_alloc_new w _)]; rfl
  have b1 : wb.cell? ⟨w.heap.size, 1, none⟩ = some (.int .i64 k1) := by rw [hwb, cell_of_row _ _ _ _ _ _ (heap_alloc_new w _)]; rfl
  have b2 : wb.cell? ⟨w.heap.size, 2, none⟩ = some (.slice ta tn tc) := by rw [hwb, cell_of_row _ _ _ _ _ _ (heap_alloc_new w _)]; rfl
  have b3 : wb.cell? ⟨w.heap.size, 3, none⟩ = some (.slice la ln lc) := by rw [hwb, cell_of_row _ _ _ _ _ _ (heap_alloc_new w _)]; rfl
  go_enter Tryd.func14, Tryd.ntmps14
  go_upto_region 1 with fail
  rw [← hwb]
  clear hwb
  go_quiet (fail)
  have BQ : Hid (Below w.heap.size w (wb.drewN nq)) := hide (unhide BB nq)
  have q0 : (wb.drewN nq).cell? ⟨w.heap.size, 0, none⟩ = some (.int .i64 k0) := b0
  have q1 : (wb.drewN nq).cell? ⟨w.heap.size, 1, none⟩ = some (.int .i64 k1) := b1
  have q2 : (wb.drewN nq).cell? ⟨w.heap.size, 2, none⟩ = some (.slice ta tn tc) := b2
  have q3 : (wb.drewN nq).cell? ⟨w.heap.size, 3, none⟩ = some (.slice la ln lc) := b3
  clear BB b0 b1 b2 b3
  generalize wb.drewN nq = wq at *
  by_cases h1 : k0 = 1
  · subst h1
    by_cases hn : k1 = 0
    · have fn : (k1 == 0) = true := by simp [hn]
      have fn2 : decide (k1 = 0) = true := decide_eq_true hn
      by_cases hl : ln = 0
      · have fl : ((ln : Int) == 0) = true := by simp [hl]
        have fl2 : (ln == 0) = true := by simp [hl]
        by_cases hm : tn ≤ 1024
        · have fm : decide ((tn : Int) ≤ 1024) = true := decide_eq_true (by omega)
          have fm2 : decide (tn ≤ 1024) = true := decide_eq_true hm
          go_wp2_with (go_at_call 22; refine (unhide CA _ BQ hm).mono ?_; rintro e w5 ⟨rfl, k5⟩)
          all_goals go_ret
          all_goals exact ⟨by (rw [unhide HR]; unfold fitK; have := unhide HT; simp [hn, hl, hm, ← this]), unhide k5⟩
        · have fm : decide ((tn : Int) ≤ 1024) = false := decide_eq_false (by omega)
          have fm2 : decide (tn ≤ 1024) = false := decide_eq_false hm
          go_wp2
          all_goals go_ret
          all_goals exact ⟨by (rw [unhide HR]; unfold fitK; have := unhide HT; simp [hn, hl, hm, ← this]), unhide BQ⟩
      · have fl : ((ln : Int) == 0) = false := by simp; omega
        have fl2 : (ln == 0) = false := by simp [hl]
        go_wp2
        all_goals go_ret
        all_goals exact ⟨by (rw [unhide HR]; unfold fitK; have := unhide HT; simp [hn, hl]), unhide BQ⟩
    · have fn : (k1 == 0) = false := by simp [hn]
      have fn2 : decide (k1 = 0) = false := decide_eq_false hn
      go_wp2
      all_goals go_ret
      all_goals exact ⟨by (rw [unhide HR]; unfold fitK; have := unhide HT; simp [hn]), unhide BQ⟩
  by_cases h2 : k0 = 2
  · subst h2
    by_cases hn : k1 = 0
    · have fn : (k1 == 0) = true := by simp [hn]
      have fn2 : decide (k1 = 0) = true := decide_eq_true hn
      by_cases hl : ln = 0
      · have fl : ((ln : Int) == 0) = true := by simp [hl]
        have fl2 : (ln == 0) = true := by simp [hl]
        by_cases hm : tn ≤ 1024
        · have fm : decide ((tn : Int) ≤ 1024) = true := decide_eq_true (by omega)
          have fm2 : decide (tn ≤ 1024) = true := decide_eq_true hm
          go_wp2_with (go_at_call 22; refine (unhide CA _ BQ hm).mono ?_; rintro e w5 ⟨rfl, k5⟩)
          all_goals go_ret
          all_goals exact ⟨by (rw [unhide HR]; unfold fitK; have := unhide HT; simp [hn, hl, hm, ← this]), unhide k5⟩
        · have fm : decide ((tn : Int) ≤ 1024) = false := decide_eq_false (by omega)
          have fm2 : decide (tn ≤ 1024) = false := decide_eq_false hm
          go_wp2
          all_goals go_ret
          all_goals exact ⟨by (rw [unhide HR]; unfold fitK; have := unhide HT; simp [hn, hl, hm, ← this]), unhide BQ⟩
      · have fl : ((ln : Int) == 0) = false := by simp; omega
        have fl2 : (ln == 0) = false := by simp [hl]
        go_wp2
        all_goals go_ret
        all_goals exact ⟨by (rw [unhide HR]; unfold fitK; have := unhide HT; simp [hn, hl]), unhide BQ⟩
    · have fn : (k1 == 0) = false := by simp [hn]
      have fn2 : decide (k1 = 0) = false := decide_eq_false hn
      go_wp2
      all_goals go_ret
      all_goals exact ⟨by (rw [unhide HR]; unfold fitK; have := unhide HT; simp [hn]), unhide BQ⟩
  by_cases h3 : k0 = 3
  · subst h3
    by_cases ht : tn = 0
    · have ft : ((tn : Int) == 0) = true := by simp [ht]
      have ft2 : (tn == 0) = true := by simp [ht]
      by_cases hl : ln = 0
      · have fl : ((ln : Int) == 0) = true := by simp [hl]
        have fl2 : (ln == 0) = true := by simp [hl]
        go_wp2
        all_goals go_ret
        all_goals exact ⟨by (rw [unhide HR]; unfold fitK; have := unhide HT; simp [ht, hl, ← this]), unhide BQ⟩
      · have fl : ((ln : Int) == 0) = false := by simp; omega
        have fl2 : (ln == 0) = false := by simp [hl]
        go_wp2
        all_goals go_ret
        all_goals exact ⟨by (rw [unhide HR]; unfold fitK; have := unhide HT; simp [ht, hl, ← this]), unhide BQ⟩
    · have ft : ((tn : Int) == 0) = false := by simp; omega
      have ft2 : (tn == 0) = false := by simp [ht]
      go_wp2
      all_goals go_ret
      all_goals exact ⟨by (rw [unhide HR]; unfold fitK; have := unhide HT; simp [ht, ← this]), unhide BQ⟩
  by_cases h4 : k0 = 4
  · subst h4
    by_cases hn : k1 = 0
    · have fn : (k1 == 0) = true := by simp [hn]
      have fn2 : decide (k1 = 0) = true := decide_eq_true hn
      by_cases hl : ln = 0
      · have fl : ((ln : Int) == 0) = true := by simp [hl]
        have fl2 : (ln == 0) = true := by simp [hl]
        by_cases hm : tn ≤ 4096
        · have fm : decide ((tn : Int) ≤ 4096) = true := decide_eq_true (by omega)
          have fm2 : decide (tn ≤ 4096) = true := decide_eq_true hm
          go_wp2
          all_goals go_ret
          all_goals exact ⟨by (rw [unhide HR]; unfold fitK; have := unhide HT; simp [hn, hl, hm, ← this]), unhide BQ⟩
        · have fm : decide ((tn : Int) ≤ 4096) = false := decide_eq_false (by omega)
          have fm2 : decide (tn ≤ 4096) = false := decide_eq_false hm
          go_wp2
          all_goals go_ret
          all_goals exact ⟨by (rw [unhide HR]; unfold fitK; have := unhide HT; simp [hn, hl, hm, ← this]), unhide BQ⟩
      · have fl : ((ln : Int) == 0) = false := by simp; omega
        have fl2 : (ln == 0) = false := by simp [hl]
        go_wp2
        all_goals go_ret
        all_goals exact ⟨by (rw [unhide HR]; unfold fitK; have := unhide HT; simp [hn, hl]), unhide BQ⟩
    · have fn : (k1 == 0) = false := by simp [hn]
      have fn2 : decide (k1 = 0) = false := decide_eq_false hn
      go_wp2
      all_goals go_ret
      all_goals exact ⟨by (rw [unhide HR]; unfold fitK; have := unhide HT; simp [hn]), unhide BQ⟩
  by_cases h5 : k0 = 5
  · subst h5
    by_cases hn : k1 = 0
    · have fn : (k1 == 0) = true := by simp [hn]
      have fn2 : decide (k1 = 0) = true := decide_eq_true hn
      by_cases ht : tn = 0
      · have ft : ((tn : Int) == 0) = true := by simp [ht]
        have ft2 : (tn == 0) = true := by simp [ht]
        by_cases hl : ln = 0
        · have fl : ((ln : Int) == 0) = true := by simp [hl]
          have fl2 : (ln == 0) = true := by simp [hl]
          go_wp2
          all_goals go_ret
          all_goals exact ⟨by (rw [unhide HR]; unfold fitK; have := unhide HT; simp [hn, ht, hl, ← this]), unhide BQ⟩
        · have fl : ((ln : Int) == 0) = false := by simp; omega
          have fl2 : (ln == 0) = false := by simp [hl]
          go_wp2
          all_goals go_ret
          all_goals exact ⟨by (rw [unhide HR]; unfold fitK; have := unhide HT; simp [hn, ht, hl, ← this]), unhide BQ⟩
      · have ft : ((tn : Int) == 0) = false := by simp; omega
        have ft2 : (tn == 0) = false := by simp [ht]
        go_wp2
        all_goals go_ret
        all_goals exact ⟨by (rw [unhide HR]; unfold fitK; have := unhide HT; simp [hn, ht, ← this]), unhide BQ⟩
    · have fn : (k1 == 0) = false := by simp [hn]
      have fn2 : decide (k1 = 0) = false := decide_eq_false hn
      go_wp2
      all_goals go_ret
      all_goals exact ⟨by (rw [unhide HR]; unfold fitK; have := unhide HT; simp [hn]), unhide BQ⟩
  by_cases h7 : k0 = 7
  · subst h7
    by_cases hn : k1 = 0
    · have fn : (k1 == 0) = true := by simp [hn]
      have fn2 : decide (k1 = 0) = true := decide_eq_true hn
      by_cases ht : tn = 0
      · have ft : ((tn : Int) == 0) = true := by simp [ht]
        have ft2 : (tn == 0) = true := by simp [ht]
        by_cases hl : ln = 0
        · have fl : ((ln : Int) == 0) = true := by simp [hl]
          have fl2 : (ln == 0) = true := by simp [hl]
          go_wp2
          all_goals go_ret
          all_goals exact ⟨by (rw [unhide HR]; unfold fitK; have := unhide HT; simp [hn, ht, hl, ← this]), unhide BQ⟩
        · have fl : ((ln : Int) == 0) = false := by simp; omega
          have fl2 : (ln == 0) = false := by simp [hl]
          go_wp2
          all_goals go_ret
          all_goals exact ⟨by (rw [unhide HR]; unfold fitK; have := unhide HT; simp [hn, ht, hl, ← this]), unhide BQ⟩
      · have ft : ((tn : Int) == 0) = false := by simp; omega
        have ft2 : (tn == 0) = false := by simp [ht]
        go_wp2
        all_goals go_ret
        all_goals exact ⟨by (rw [unhide HR]; unfold fitK; have := unhide HT; simp [hn, ht, ← this]), unhide BQ⟩
    · have fn : (k1 == 0) = false := by simp [hn]
      have fn2 : decide (k1 = 0) = false := decide_eq_false hn
      go_wp2
      all_goals go_ret
      all_goals exact ⟨by (rw [unhide HR]; unfold fitK; have := unhide HT; simp [hn]), unhide BQ⟩
  by_cases h6 : k0 = 6
  · subst h6
    by_cases hn : k1 = 0
    · have fn : (k1 == 0) = true := by simp [hn]
      have fn2 : decide (k1 = 0) = true := decide_eq_true hn
      by_cases ht : tn = 0
      · have ft : ((tn : Int) == 0) = true := by simp [ht]
        have ft2 : (tn == 0) = true := by simp [ht]
        go_wp2_with (go_at_call 23; refine (unhide CL _ BQ).mono ?_; rintro e w5 ⟨rfl, k5⟩)
        all_goals go_ret
        all_goals exact ⟨by (rw [unhide HR]; unfold fitK; have := unhide HT; simp [hn, ht, ← this]), unhide k5⟩
      · have ft : ((tn : Int) == 0) = false := by simp; omega
        have ft2 : (tn == 0) = false := by simp [ht]
        go_wp2
        all_goals go_ret
        all_goals exact ⟨by (rw [unhide HR]; unfold fitK; have := unhide HT; simp [hn, ht, ← this]), unhide BQ⟩
    · have fn : (k1 == 0) = false := by simp [hn]
      have fn2 : decide (k1 = 0) = false := decide_eq_false hn
      go_wp2
      all_goals go_ret
      all_goals exact ⟨by (rw [unhide HR]; unfold fitK; have := unhide HT; simp [hn]), unhide BQ⟩
  have g1 : (k0 == 1) = false := by simp [h1]
  have g2 : (k0 == 2) = false := by simp [h2]
  have g3 : (k0 == 3) = false := by simp [h3]
  have g4 : (k0 == 4) = false := by simp [h4]
  have g5 : (k0 == 5) = false := by simp [h5]
  have g6 : (k0 == 6) = false := by simp [h6]
  have g7 : (k0 == 7) = false := by simp [h7]
  go_wp2
  all_goals go_ret
  all_goals exact ⟨by (rw [unhide HR]; unfold fitK; have := unhide HT; simp [h1, h2, h3, h4, h5, h6, h7]), unhide BQ⟩
theorem fit_any (U : World → Prop) (UB : StaysB U) (CA : CtaOk U) : ∀ (d : Nat) (w : World) (x : Tr d) (v0 v1 v2 v3 : Value) (i : Nat), U w → RpAt w d x v0 v1 v2 v3 → i ≤ 8 → Calls Tryd.prog 14 #[.agg #[v0, v1, v2, v3], .int .i64 (i : Nat)] w fun e w' => e = .returned (.bool (fitB d x i)) ∧ Below w.heap.size w w'
  | 0, w, x, v0, v1, v2, v3, i, _, h, _ => absurd h id
  | d + 1, w, x, v0, v1, v2, v3, i, hU, h, hi => by
    have IH := fit_any U UB CA d
    obtain ⟨⟨rfl, -⟩, ⟨rfl, -⟩, ⟨ta, tc, rfl, hB, hS, htn, htc⟩, la, lc, rfl, hln, hat⟩ := h
    refine fit_walk w x.nd.k x.nd.n ta la x.nd.t x.nd.t.length tc x.nd.l.length lc i _ _ hi rfl htn hln rfl (hide (fun W hW h10 => ?_)) (hide (fun W hW => ?_))
    · exact (CA W ta tc x.nd.t (UB w W hU (unhide hW)) (hB.below (unhide hW)) hS h10 htc).mono (fun e w' ⟨h1, h2⟩ => ⟨h1, hide ((unhide hW).trans (h2.mono (unhide hW).size))⟩)
    · have hl : RlAt w d la x.nd.l := hat
      have := fitList_any U UB d IH W la lc x.nd.l.length (i + 1) x.nd.l (UB w W hU (unhide hW)) rfl hln (hl.below (unhide hW)) (by omega)
      rw [show (((i + 1 : Nat)) : Int) = (i : Int) + 1 by omega] at this
      exact this.mono (fun e w' ⟨h1, h2⟩ => ⟨h1, hide ((unhide hW).trans (h2.mono (unhide hW).size))⟩)
end Go.Proofs.YtfgemcmiilbodaaDoor
