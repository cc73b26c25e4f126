/- byTime; who is wanted. -/
import Derived.Test.YtfebiemfmiahhabKk
namespace Go.Proofs.Ytfebiemfmiahhab
open Go.ChangeShapes Go.WideShapes Go.ChangeAt Go.RowKit Go.Maps
set_option linter.unusedVariables false
set_option linter.unusedSimpArgs false
set_option maxRecDepth 100000
set_option maxHeartbeats 8000000
theorem byTime_any (w : World) (x y : W5) : Calls Try.prog 43 #[.agg (enc5 x).toArray, .agg (enc5 y).toArray] w fun e w' => e = .returned (.int .i64 (cfTime x y)) ∧ Gw w w' := by
  obtain ⟨a1, a2, a3, a4, a5, a6, a7⟩ := x
  obtain ⟨b1, b2, b3, b4, b5, b6, b7⟩ := y
  obtain ⟨w0, hw0⟩ : ∃ w0, (w.alloc (.cells #[.int .i64 a1, .int .u64 a2, .int .i64 a3, .slice a4 a5 a6, .int .u64 a7] 73)).alloc (.cells #[.int .i64 b1, .int .u64 b2, .int .i64 b3, .slice b4 b5 b6, .int .u64 b7] 73) = w0 := ⟨_, rfl⟩
  have hG0 : Gw w w0 := by rw [← hw0]; exact ((Gw.refl w).alloc _).alloc _
  have hs0 : w0.heap.size = w.heap.size + 2 := by rw [← hw0]; simp
  have hA : w0.heap[w.heap.size]? = some (.cells #[.int .i64 a1, .int .u64 a2, .int .i64 a3, .slice a4 a5 a6, .int .u64 a7] 73 (0, 0)) := by
    rw [← hw0]
    have hb : Below (w.alloc (.cells #[.int .i64 a1, .int .u64 a2, .int .i64 a3, .slice a4 a5 a6, .int .u64 a7] 73)).heap.size (w.alloc (.cells #[.int .i64 a1, .int .u64 a2, .int .i64 a3, .slice a4 a5 a6, .int .u64 a7] 73)) ((w.alloc (.cells #[.int .i64 a1, .int .u64 a2, .int .i64 a3, .slice a4 a5 a6, .int .u64 a7] 73)).alloc (.cells #[.int .i64 b1, .int .u64 b2, .int .i64 b3, .slice b4 b5 b6, .int .u64 b7] 73)) := (Below.refl _ _).alloc (Nat.le_refl _) _
    exact (hb.block _ (by simp)).trans (heap_alloc_new _ _)
  have hB : w0.heap[w.heap.size + 1]? = some (.cells #[.int .i64 b1, .int .u64 b2, .int .i64 b3, .slice b4 b5 b6, .int .u64 b7] 73 (0, 0)) := by
    rw [← hw0]
    have := heap_alloc_new (w.alloc (.cells #[.int .i64 a1, .int .u64 a2, .int .i64 a3, .slice a4 a5 a6, .int .u64 a7] 73)) (.cells #[.int .i64 b1, .int .u64 b2, .int .i64 b3, .slice b4 b5 b6, .int .u64 b7] 73)
    rwa [World.size_alloc] at this
  have FC : Hid (∀ W, Below w0.heap.size w0 W → (W.cell? ⟨w.heap.size, 0, none⟩ = some (.int .i64 a1) ∧ W.cell? ⟨w.heap.size, 1, none⟩ = some (.int .u64 a2) ∧ W.cell? ⟨w.heap.size, 2, none⟩ = some (.int .i64 a3) ∧ W.cell? ⟨w.heap.size, 3, none⟩ = some (.slice a4 a5 a6) ∧ W.cell? ⟨w.heap.size, 4, none⟩ = some (.int .u64 a7) ∧ W.cell? ⟨w.heap.size + 1, 0, none⟩ = some (.int .i64 b1) ∧ W.cell? ⟨w.heap.size + 1, 1, none⟩ = some (.int .u64 b2) ∧ W.cell? ⟨w.heap.size + 1, 2, none⟩ = some (.int .i64 b3) ∧ W.cell? ⟨w.heap.size + 1, 3, none⟩ = some (.slice b4 b5 b6) ∧ W.cell? ⟨w.heap.size + 1, 4, none⟩ = some (.int .u64 b7))) := hide (fun W hb => by
    have h1 := (hb.block w.heap.size (by omega)).trans hA
    have h2 := (hb.block (w.heap.size + 1) (by omega)).trans hB
    exact ⟨cell_blk h1 0, cell_blk h1 1, cell_blk h1 2, cell_blk h1 3, cell_blk h1 4, cell_blk h2 0, cell_blk h2 1, cell_blk h2 2, cell_blk h2 3, cell_blk h2 4⟩)
  obtain ⟨rt, hrt⟩ : ∃ r, cmpZ a7 b7 = r := ⟨_, rfl⟩
  obtain ⟨rn, hrn⟩ : ∃ r, cmpZ a2 b2 = r := ⟨_, rfl⟩
  have CC : Hid (∀ W, Calls Try.prog 55 #[.int .u64 a7, .int .u64 b7] W fun e w' => e = .returned (.int .i64 rt) ∧ w' = W) := hide (fun W => by rw [← hrt]; exact cmp_any W a7 b7)
  have CT : Hid (∀ W, Below w0.heap.size w0 W → Calls Try.prog 45 #[.agg #[.int .i64 a1, .int .u64 a2, .int .i64 a3, .slice a4 a5 a6, .int .u64 a7], .agg #[.int .i64 b1, .int .u64 b2, .int .i64 b3, .slice b4 b5 b6, .int .u64 b7]] W fun e w' => e = .returned (.int .i64 rn) ∧ Hid (Gw W w' ∧ Below w0.heap.size w0 w') ∧ (w'.cell? ⟨w.heap.size, 0, none⟩ = some (.int .i64 a1) ∧ w'.cell? ⟨w.heap.size, 1, none⟩ = some (.int .u64 a2) ∧ w'.cell? ⟨w.heap.size, 2, none⟩ = some (.int .i64 a3) ∧ w'.cell? ⟨w.heap.size, 3, none⟩ = some (.slice a4 a5 a6) ∧ w'.cell? ⟨w.heap.size, 4, none⟩ = some (.int .u64 a7) ∧ w'.cell? ⟨w.heap.size + 1, 0, none⟩ = some (.int .i64 b1) ∧ w'.cell? ⟨w.heap.size + 1, 1, none⟩ = some (.int .u64 b2) ∧ w'.cell? ⟨w.heap.size + 1, 2, none⟩ = some (.int .i64 b3) ∧ w'.cell? ⟨w.heap.size + 1, 3, none⟩ = some (.slice b4 b5 b6) ∧ w'.cell? ⟨w.heap.size + 1, 4, none⟩ = some (.int .u64 b7))) := hide (fun W hb => (byTurn_any W (a1, a2, a3, a4, a5, a6, a7) (b1, b2, b3, b4, b5, b6, b7)).mono (fun e w' ⟨e1, e2⟩ => by
    have hb' := hb.trans (e2.below.mono hb.size)
    exact ⟨by rw [e1, ← hrn]; rfl, hide ⟨e2, hb'⟩, unhide FC w' hb'⟩))
  have CO : Hid (∀ W : World, Calls Try.prog 54 #[.slice (some ⟨W.heap.size, 0, none⟩) 2 2] (W.alloc (.cells #[.int .i64 rt, .int .i64 rn] 3)) fun e w' => e = .returned (.int .i64 (if rt ≠ 0 then rt else rn)) ∧ w' = W.alloc (.cells #[.int .i64 rt, .int .i64 rn] 3)) := hide (fun W => or_any _ _ rt rn (heap_alloc_new _ _))
  have HG0 := hide hG0
  have hd0 := unhide FC w0.drew (Below.refl _ _).drew
  have CT0 := hide (unhide CT w0.drew (Below.refl _ _).drew)
  have hcf : cfTime (a1, a2, a3, a4, a5, a6, a7) (b1, b2, b3, b4, b5, b6, b7) = if rt ≠ 0 then rt else rn := by
    unfold cfTime cfTurn
    simp only [hrt, hrn]
  rw [hcf]
  change Calls Try.prog 43 #[.agg #[.int .i64 a1, .int .u64 a2, .int .i64 a3, .slice a4 a5 a6, .int .u64 a7], .agg #[.int .i64 b1, .int .u64 b2, .int .i64 b3, .slice b4 b5 b6, .int .u64 b7]] w fun e w' => e = .returned (.int .i64 (if rt ≠ 0 then rt else rn)) ∧ Gw w w'
  generalize (if rt ≠ 0 then rt else rn) = rr at *
  clear hG0 hs0 hA hB hrt hrn hcf CT
  go_enter Try.func43, Try.ntmps43
  go_wp2_with fail
  go_region_held3 (fun w' => w'.cell? ⟨w.heap.size, 0, none⟩ = some (.int .i64 a1) ∧ w'.cell? ⟨w.heap.size, 1, none⟩ = some (.int .u64 a2) ∧ w'.cell? ⟨w.heap.size, 2, none⟩ = some (.int .i64 a3) ∧ w'.cell? ⟨w.heap.size, 3, none⟩ = some (.slice a4 a5 a6) ∧ w'.cell? ⟨w.heap.size, 4, none⟩ = some (.int .u64 a7) ∧ w'.cell? ⟨w.heap.size + 1, 0, none⟩ = some (.int .i64 b1) ∧ w'.cell? ⟨w.heap.size + 1, 1, none⟩ = some (.int .u64 b2) ∧ w'.cell? ⟨w.heap.size + 1, 2, none⟩ = some (.int .i64 b3) ∧ w'.cell? ⟨w.heap.size + 1, 3, none⟩ = some (.slice b4 b5 b6) ∧ w'.cell? ⟨w.heap.size + 1, 4, none⟩ = some (.int .u64 b7)) (first | exact z2 | exact unhide FC _ ((unhide k2).2.alloc (unhide k2).2.size _) | exact hd0 | go_keep) (first
    | (go_at_call 55; with_reducible refine (unhide CC _).mono ?_; rintro e w1 ⟨rfl, h⟩; obtain rfl := h.symm)
    | (go_at_call 45; with_reducible refine (unhide CT0).mono ?_; rintro e w2 ⟨rfl, k2, z2⟩)
    | (go_at_call 54; with_reducible refine (unhide CO _).mono ?_; rintro e w3 ⟨rfl, h⟩; obtain rfl := h.symm))
  all_goals (try go_wp2_with fail)
  all_goals go_ret
  all_goals exact ⟨rfl, ((unhide HG0).drew.trans (unhide k2).1).alloc _⟩
theorem all25 (w : World) (e : En) : Calls Try.prog 46 #[enV e] w fun r w' => r = .returned (.bool true) ∧ Below w.heap.size w w' := by
  have HB := hide ((Below.refl w.heap.size w).alloc (Nat.le_refl _) (.cells #[.int .i64 (e.x.conn : Nat), .int .u64 (e.turn : Nat), .int .i64 e.x.kind, .slice (some ⟨e.g, 0, none⟩) e.x.places.length e.x.places.length, .int .u64 (e.x.till : Nat)] 73))
  unfold enV
  go_enter Try.func46, Try.ntmps46
  go_wp2
  go_ret
  exact ⟨rfl, unhide HB⟩
/-- is his time over? -/
def dueB (now : Nat) (e : En) : Bool := decide (e.x.till ≠ 0) && decide (e.x.till ≤ now)
theorem due27 (w : World) (B now : Nat) (e : En) (hB : w.cell? ⟨B, 0, none⟩ = some (.int .u64 (now : Nat))) (hBl : B < w.heap.size) : Calls Try.prog 44 #[enV e, .pointer (some ⟨B, 0, none⟩)] w fun r w' => r = .returned (.bool (dueB now e)) ∧ Below w.heap.size w w' := by
  have hb := (Below.refl w.heap.size w).alloc (Nat.le_refl _) (.cells #[.int .i64 (e.x.conn : Nat), .int .u64 (e.turn : Nat), .int .i64 e.x.kind, .slice (some ⟨e.g, 0, none⟩) e.x.places.length e.x.places.length, .int .u64 (e.x.till : Nat)] 73)
  have c1 := (hb.cell (p := ⟨B, 0, none⟩) hBl).trans hB
  have HB := hide hb
  obtain ⟨t, ht⟩ : ∃ t, e.x.till = t := ⟨_, rfl⟩
  unfold enV dueB
  rw [ht] at c1 HB ⊢
  clear hb ht
  by_cases h1 : t = 0
  · subst h1
    go_enter Try.func44, Try.ntmps44
    go_wp2
    go_ret
    exact ⟨rfl, unhide HB⟩
  · have f1 : ((t : Int) != 0) = true := by simp [h1]
    have f1' : decide (t ≠ 0) = true := decide_eq_true h1
    by_cases h2 : t ≤ now
    · have f2 : decide ((t : Int) ≤ (now : Int)) = true := decide_eq_true (by omega)
      have f2' : decide (t ≤ now) = true := decide_eq_true h2
      rw [f1', f2']
      go_enter Try.func44, Try.ntmps44
      go_wp2
      go_ret
      exact ⟨rfl, unhide HB⟩
    · have f2 : decide ((t : Int) ≤ (now : Int)) = false := decide_eq_false (by omega)
      have f2' : decide (t ≤ now) = false := decide_eq_false h2
      rw [f1', f2']
      go_enter Try.func44, Try.ntmps44
      go_wp2
      go_ret
      exact ⟨rfl, unhide HB⟩
theorem cmpZ_lt (a b : Int) : cmpZ a b < 0 ↔ a < b := by
  unfold cmpZ
  split
  · simp; omega
  · split <;> simp <;> omega
theorem ltTurn (x y : W5) : Go.Proofs.ltOf cfTurn x y = decide (x.2.1 < y.2.1) := by
  unfold Go.Proofs.ltOf cfTurn
  exact decide_eq_decide.2 (cmpZ_lt _ _)
theorem ltTime (x y : W5) : Go.Proofs.ltOf cfTime x y = decide (x.2.2.2.2.2.2 < y.2.2.2.2.2.2 ∨ x.2.2.2.2.2.2 = y.2.2.2.2.2.2 ∧ x.2.1 < y.2.1) := by
  unfold Go.Proofs.ltOf cfTime
  refine decide_eq_decide.2 ?_
  have h1 := cmpZ_lt x.2.2.2.2.2.2 y.2.2.2.2.2.2
  have h2 := cmpZ_lt x.2.1 y.2.1
  unfold cfTurn
  split
  · rename_i hne
    rw [h1]
    unfold cmpZ at hne
    split at hne
    · omega
    · split at hne
      · omega
      · exact absurd rfl hne
  · rename_i hne
    rw [h2]
    unfold cmpZ at hne
    split at hne
    · exact absurd (by decide : (-1 : Int) ≠ 0) hne
    · split at hne
      · exact absurd (by decide : (1 : Int) ≠ 0) hne
      · omega
theorem swoTurn : Sort.SWO (Go.Proofs.ltOf cfTurn) := ⟨fun x => by rw [ltTurn]; simp, fun x y z => by rw [ltTurn, ltTurn, ltTurn]; simp; omega, fun x y z => by rw [ltTurn, ltTurn, ltTurn]; simp; omega⟩
theorem swoTime : Sort.SWO (Go.Proofs.ltOf cfTime) := ⟨fun x => by rw [ltTime]; simp, fun x y z => by rw [ltTime, ltTime, ltTime]; simp only [decide_eq_true_eq]; omega, fun x y z => by rw [ltTime, ltTime, ltTime]; simp only [decide_eq_false_iff_not]; omega⟩
end Go.Proofs.Ytfebiemfmiahhab
