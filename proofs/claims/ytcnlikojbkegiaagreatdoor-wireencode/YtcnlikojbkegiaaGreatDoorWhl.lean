/- whole. -/
import Derived.Test.YtcnlikojbkegiaaGreatDoorLen
namespace Go.Proofs.YtcnlikojbkegiaaGreatDoor
open Go.ChangeShapes Go.WideShapes Go.ChangeAt Go.RowKit
set_option linter.unusedVariables false
set_option linter.unusedSimpArgs false
set_option maxRecDepth 20000
set_option maxHeartbeats 4000000

/-- whole: its loop -/
structure WhL (w wr : World) (lo hi : Nat) (CX CR : Array Value) (d : Nat) (x : Tr (d + 1)) (gl : Nat) (I : Nat → Nat) (i : Nat) : Prop where
  kept : Kept (fun b => lo ≤ b ∧ b < hi) w wr
  bx : wr.heap[w.heap.size]? = some (.cells CX 31 (0, 0))
  br : wr.heap[w.heap.size + 1]? = some (.cells CR 31 (0, 0))
  last : wr.cell? ⟨gl, x.nd.l.length * 4, none⟩ = some (.int .i64 99)
  rest : ∀ j y, i ≤ j → x.nd.l[j]? = some y → ∃ u0 u1 u2 u3, wr.rangeAt gl (j * 4) [u0, u1, u2, u3] ∧ LnAt wr d y (I j) (I (j + 1)) u0 u1 u2 u3
theorem blk_lt {w : World} {g : Nat} {o : Obj} (h : w.heap[g]? = some o) : g < w.heap.size := by
  rcases Nat.lt_or_ge g w.heap.size with q | q
  · exact q
  · rw [Array.getElem?_eq_none q] at h; cases h
theorem WhL.step {w wr w5 : World} {lo hi gl i : Nat} {CX CR : Array Value} {d : Nat} {x : Tr (d + 1)} {I : Nat → Nat} (h : WhL w wr lo hi CX CR d x gl I i) (hI : ∀ i, I i ≤ I (i + 1)) (hn : I x.nd.l.length ≤ hi) (hi' : hi ≤ w.heap.size) (hgl : gl < I 0) (h0 : lo ≤ I 0) (hil : i < x.nd.l.length)
    (hk : Kept (fun b => I i ≤ b ∧ b < I (i + 1)) wr w5) : WhL w w5 lo hi CX CR d x gl I (i + 1) := by
  have i0 := I_le hI (Nat.zero_le i)
  have i1 := I_le hI (show i + 1 ≤ x.nd.l.length by omega)
  have i2 := hI i
  have sz := h.kept.size
  have lx := blk_lt h.br
  have og : w5.heap[gl]? = wr.heap[gl]? := hk.blk gl (by omega) (fun q => by omega)
  refine ⟨h.kept.trans (hk.mono (fun b q => ⟨by omega, by omega⟩)), ?_, ?_, (cell_same og).trans h.last, fun j y hj hy => ?_⟩
  · rw [hk.blk _ (by omega) (fun q => by omega)]; exact h.bx
  · rw [hk.blk _ (by omega) (fun q => by omega)]; exact h.br
  · obtain ⟨u0, u1, u2, u3, hu, hl⟩ := h.rest j y (by omega) hy
    have hjl : j < x.nd.l.length := (List.getElem?_eq_some_iff.1 hy).1
    have j0 := I_le hI hj
    have j1 := I_le hI (show j + 1 ≤ x.nd.l.length by omega)
    exact ⟨u0, u1, u2, u3, range_same og hu, hl.same (fun b hb hb' => hk.blk b (by omega) (fun q => by omega))⟩
theorem whole_walk (w0 w : World) (d : Nat) (x : Tr (d + 1)) (k0 k1 : Int) (ta la : Option Addr) (tn tc ln lc lo hi gt gl : Nat) (I : Nat → Nat) (htn : Hid (tn = x.nd.t.length)) (hln : Hid (ln = x.nd.l.length)) (hl : tn ≤ 16777216) (hl2 : ln ≤ 16777216)
    (hB : Hid (Bytes w0 ta x.nd.t ∧ Small x.nd.t)) (HR : Hid (RlAt w0 d la x.nd.l)) (h0w : Hid (Below w0.heap.size w0 w)) (h0l : Hid (w0.heap.size ≤ lo)) (hhi : Hid (hi ≤ w.heap.size))
    (HI : Hid ((gt ≠ gl ∧ lo ≤ gt ∧ lo ≤ gl ∧ gt < I 0 ∧ gl < I 0 ∧ (∀ i, I i ≤ I (i + 1)) ∧ I x.nd.l.length ≤ hi)))
    (hrow : Hid (Rws w 5 1 (.slice (some ⟨gt, 0, none⟩) (tn + 3) (tn + 3)) (tn + 3) (byV (x.nd.t ++ [7, 7, 7]))))
    (hlast : Hid (w.cell? ⟨gl, x.nd.l.length * 4, none⟩ = some (.int .i64 99)))
    (hrest : Hid (∀ j y, x.nd.l[j]? = some y → ∃ u0 u1 u2 u3, w.rangeAt gl (j * 4) [u0, u1, u2, u3] ∧ LnAt w d y (I j) (I (j + 1)) u0 u1 u2 u3))
    (IH : Hid (∀ (wr : World) (y : Tr d) (lo' hi' : Nat) (u0 u1 u2 u3 v0 v1 v2 v3 : Value), y ∈ x.nd.l → LnAt wr d y lo' hi' u0 u1 u2 u3 → hi' ≤ wr.heap.size → RpAt w0 d y v0 v1 v2 v3 → Below w0.heap.size w0 wr → w0.heap.size ≤ lo' → Calls Tryz.prog 27 #[.agg #[u0, u1, u2, u3], .agg #[v0, v1, v2, v3]] wr fun e w' => e = .returned (.bool true) ∧ Hid (Kept (fun b => lo' ≤ b ∧ b < hi') wr w'))) :
    Calls Tryz.prog 27 #[.agg #[.int .i64 k0, .int .i64 k1, .slice (some ⟨gt, 0, none⟩) tn (tn + 3), .slice (some ⟨gl, 0, none⟩) ln (ln + 1)], .agg #[.int .i64 k0, .int .i64 k1, .slice ta tn tc, .slice la ln lc]] w fun e w' => e = .returned (.bool true) ∧ Hid (Kept (fun b => lo ≤ b ∧ b < hi) w w') := by
  obtain ⟨W0, HW⟩ : ∃ W0, W0 = (w.alloc (.cells #[.int .i64 k0, .int .i64 k1, .slice (some ⟨gt, 0, none⟩) tn (tn + 3), .slice (some ⟨gl, 0, none⟩) ln (ln + 1)] 31)).alloc (.cells #[.int .i64 k0, .int .i64 k1, .slice ta tn tc, .slice la ln lc] 31) := ⟨_, rfl⟩
  have z0 : W0.heap.size = w.heap.size + 2 := by rw [HW]; simp
  have bx : W0.heap[w.heap.size]? = some (.cells #[.int .i64 k0, .int .i64 k1, .slice (some ⟨gt, 0, none⟩) tn (tn + 3), .slice (some ⟨gl, 0, none⟩) ln (ln + 1)] 31 (0, 0)) := by
    rw [HW, Below.heap_alloc _ _ _ (by simp)]; exact heap_alloc_new _ _
  have br : W0.heap[w.heap.size + 1]? = some (.cells #[.int .i64 k0, .int .i64 k1, .slice ta tn tc, .slice la ln lc] 31 (0, 0)) := by
    have := heap_alloc_new (w.alloc (.cells #[.int .i64 k0, .int .i64 k1, .slice (some ⟨gt, 0, none⟩) tn (tn + 3), .slice (some ⟨gl, 0, none⟩) ln (ln + 1)] 31)) (.cells #[.int .i64 k0, .int .i64 k1, .slice ta tn tc, .slice la ln lc] 31)
    rw [HW, ← this]; simp
  have bw : Below w.heap.size w W0 := by
    rw [HW]; exact ((Below.refl _ _).alloc (Nat.le_refl _) _).alloc (by simp) _
  have cX : ∀ {W : World} (h : W.heap[w.heap.size]? = W0.heap[w.heap.size]?), W.cell? ⟨w.heap.size, 0, none⟩ = some (.int .i64 k0) ∧ W.cell? ⟨w.heap.size, 1, none⟩ = some (.int .i64 k1) ∧ W.cell? ⟨w.heap.size, 2, none⟩ = some (.slice (some ⟨gt, 0, none⟩) tn (tn + 3)) ∧ W.cell? ⟨w.heap.size, 3, none⟩ = some (.slice (some ⟨gl, 0, none⟩) ln (ln + 1)) := fun {W} h => by
    have hb := h.trans bx
    exact ⟨cell_of_row _ _ _ _ _ _ hb, cell_of_row _ _ _ _ _ _ hb, cell_of_row _ _ _ _ _ _ hb, cell_of_row _ _ _ _ _ _ hb⟩
  have cR : ∀ {W : World} (h : W.heap[w.heap.size + 1]? = W0.heap[w.heap.size + 1]?), W.cell? ⟨w.heap.size + 1, 0, none⟩ = some (.int .i64 k0) ∧ W.cell? ⟨w.heap.size + 1, 1, none⟩ = some (.int .i64 k1) ∧ W.cell? ⟨w.heap.size + 1, 2, none⟩ = some (.slice ta tn tc) ∧ W.cell? ⟨w.heap.size + 1, 3, none⟩ = some (.slice la ln lc) := fun {W} h => by
    have hb := h.trans br
    exact ⟨cell_of_row _ _ _ _ _ _ hb, cell_of_row _ _ _ _ _ _ hb, cell_of_row _ _ _ _ _ _ hb, cell_of_row _ _ _ _ _ _ hb⟩
  obtain ⟨n1, n2, n3, n4, n5, n6, n7⟩ := unhide HI
  have i0 := I_le n6 (Nat.zero_le x.nd.l.length)
  have hh := unhide hhi
  have hll := unhide h0l
  have CS : Hid (Calls Tryz.prog 17 #[.slice (some ⟨gt, 0, none⟩) (tn + 3) (tn + 3), .slice ta tn tc] W0.drew fun e w' => e = .returned (.bool true) ∧ Hid (WhL w w' lo hi #[.int .i64 k0, .int .i64 k1, .slice (some ⟨gt, 0, none⟩) tn (tn + 3), .slice (some ⟨gl, 0, none⟩) ln (ln + 1)] #[.int .i64 k0, .int .i64 k1, .slice ta tn tc, .slice la ln lc] d x gl I 0) ∧ w'.cell? ⟨w.heap.size, 2, none⟩ = some (.slice (some ⟨gt, 0, none⟩) tn (tn + 3)) ∧ w'.cell? ⟨w.heap.size + 1, 2, none⟩ = some (.slice ta tn tc)) := hide (by
    have hbw : Below w.heap.size w W0.drew := bw.drew
    have hsz : W0.drew.heap.size = w.heap.size + 2 := z0
    have hr := (unhide hrow).below hbw
    have fin : ∀ {w'}, Kept1 gt W0.drew w' → WhL w w' lo hi #[.int .i64 k0, .int .i64 k1, .slice (some ⟨gt, 0, none⟩) tn (tn + 3), .slice (some ⟨gl, 0, none⟩) ln (ln + 1)] #[.int .i64 k0, .int .i64 k1, .slice ta tn tc, .slice la ln lc] d x gl I 0 ∧ w'.cell? ⟨w.heap.size, 2, none⟩ = some (.slice (some ⟨gt, 0, none⟩) tn (tn + 3)) ∧ w'.cell? ⟨w.heap.size + 1, 2, none⟩ = some (.slice ta tn tc) := fun {w'} k1 => by
      have e1 : w'.heap[w.heap.size]? = W0.heap[w.heap.size]? := k1.blk w.heap.size (by omega)
      have e2 : w'.heap[w.heap.size + 1]? = W0.heap[w.heap.size + 1]? := k1.blk (w.heap.size + 1) (by omega)
      have eo : ∀ b, b < w.heap.size → b ≠ gt → w'.heap[b]? = w.heap[b]? := fun b hb hne => (k1.blk b hne).trans (hbw.block b hb)
      refine ⟨⟨⟨k1.os.trans hbw.os, k1.tape.trans hbw.tape, k1.output.trans hbw.output, by rw [k1.size, hsz]; omega, fun b hb hS => eo b hb (fun e => hS ⟨by omega, by omega⟩)⟩, e1.trans bx, e2.trans br, ?_, fun j y hj hy => ?_⟩, (cX e1).2.2.1, (cR e2).2.2.1⟩
      · rw [cell_same (eo gl (by omega) (fun e => n1 e.symm))]; exact unhide hlast
      · obtain ⟨u0, u1, u2, u3, hu, hL⟩ := unhide hrest j y hy
        have hjl : j < x.nd.l.length := (List.getElem?_eq_some_iff.1 hy).1
        have j0 := I_le n6 (Nat.zero_le j)
        have j1 := I_le n6 (show j + 1 ≤ x.nd.l.length by omega)
        exact ⟨u0, u1, u2, u3, range_same (eo gl (by omega) (fun e => n1 e.symm)) hu, hL.same (fun b hb hb' => eo b (by omega) (by omega))⟩
    have e1 := unhide htn
    rcases (unhide hB).1 with h | ⟨bb, oo, rfl, y1, y2⟩
    · have tz : tn = 0 := by rw [e1, h]; rfl
      rw [h] at hr
      refine (same_any' gt 0 0 tc ta [] tn W0.drew (by rw [tz]; rfl) hr (fun q => by omega) (fun q => by omega) (fun q => by omega) (fun k hk => by omega) (fun i hi => by simp at hi) (by omega)).mono ?_
      rintro e w' ⟨rfl, k⟩
      exact ⟨rfl, hide (fin k).1, (fin k).2⟩
    · refine (same_any' gt bb oo tc (some ⟨bb, oo, none⟩) x.nd.t tn W0.drew e1 hr (fun _ => rfl) (fun _ => by have := (unhide h0w).size; omega) (fun _ => by omega) (fun k hk => ?_) (unhide hB).2 (by omega)).mono ?_
      · have hb2 : Below w0.heap.size w0 W0.drew := (unhide h0w).trans (hbw.mono (unhide h0w).size)
        rw [hb2.cell (p := ⟨bb, oo + k, none⟩) y1, y2 k (by omega)]
        rfl
      · rintro e w' ⟨rfl, k⟩
        exact ⟨rfl, hide (fin k).1, (fin k).2⟩)
  obtain ⟨a0, a1, a2, a3⟩ := cX (W := W0) rfl
  obtain ⟨e0, e1, e2, e3⟩ := cR (W := W0) rfl
  have f1 : decide ((tn : Int) + 3 < (tn : Int) + 3) = false := decide_eq_false (by omega)
  have f2 : decide ((ln : Int) + 1 < (ln : Int) + 1) = false := decide_eq_false (by omega)
  have wr3 : IntKind.i64.wrap ((tn : Int) + 3) = (tn : Int) + 3 := by rw [IntKind.wrap_i64]; omega
  have wr1 : IntKind.i64.wrap ((ln : Int) + 1) = (ln : Int) + 1 := by rw [IntKind.wrap_i64]; omega
  have tt3 : ((tn : Int) + 3).toNat = tn + 3 := by omega
  have tt1 : ((ln : Int) + 1).toNat = ln + 1 := by omega
  have r1 : (0 : Int) ≤ (tn : Int) + 3 := by omega
  have r2 : (tn : Int) + 3 ≤ (tn : Int) + 3 := by omega
  have r3 : (0 : Int) ≤ (ln : Int) + 1 := by omega
  have r4 : (ln : Int) + 1 ≤ (ln : Int) + 1 := by omega
  have r5 : (0 : Int) ≤ (ln : Int) := by omega
  have r6 : (ln : Int) < (ln : Int) + 1 := by omega
  clear bx br cX cR z0 bw n1 n2 n3 n4 n5 n6 n7 i0 hh hll hrow hlast hrest htn
  go_enter Tryz.func27, Tryz.ntmps27
  go_upto_region 1 with fail
  rw [← HW]
  clear HW
  go_wp2_with fail
  go_region_held3 (fun w' => w'.cell? ⟨w.heap.size, 2, none⟩ = some (.slice (some ⟨gt, 0, none⟩) tn (tn + 3)) ∧ w'.cell? ⟨w.heap.size + 1, 2, none⟩ = some (.slice ta tn tc)) (go_keep) (first
    | (go_at_call 17; refine (unhide CS).mono ?_; rintro e w6 ⟨rfl, k6, s6⟩))
  have c1 : w6.cell? ⟨w.heap.size, 3, none⟩ = some (.slice (some ⟨gl, 0, none⟩) ln (ln + 1)) := cell_of_row _ _ _ _ _ _ (unhide k6).bx
  have c2 : w6.cell? ⟨w.heap.size + 1, 3, none⟩ = some (.slice la ln lc) := cell_of_row _ _ _ _ _ _ (unhide k6).br
  have c3 : w6.cell? ⟨gl, ln * 4, none⟩ = some (.int .i64 99) := by rw [unhide hln]; exact (unhide k6).last
  clear a0 a1 a2 a3 e0 e1 e2 e3 s6 CS
  go_wp2_with fail
  clear c1 c2 c3
  go_loopw [5, 7] (fun ov iv wr => ∃ i : Nat, ov = .bool true ∧ iv = .int .i64 (i : Nat) ∧ i ≤ ln ∧ Hid (WhL w wr lo hi #[.int .i64 k0, .int .i64 k1, .slice (some ⟨gt, 0, none⟩) tn (tn + 3), .slice (some ⟨gl, 0, none⟩) ln (ln + 1)] #[.int .i64 k0, .int .i64 k1, .slice ta tn tc, .slice la ln lc] d x gl I i)) (fun _ iv _ => ln - (intOf iv).toNat)
  case atStart => exact ⟨0, rfl, rfl, Nat.zero_le _, k6⟩
  case round =>
    obtain ⟨i, rfl, rfl, hi9, hL⟩ := hrel
    clear k6
    have c2 : wr.cell? ⟨w.heap.size + 1, 3, none⟩ = some (.slice la ln lc) := cell_of_row _ _ _ _ _ _ (unhide hL).br
    rcases Nat.lt_or_ge i ln with hlt | hge
    · have f1 : decide ((i : Int) < (ln : Int)) = true := decide_eq_true (by omega)
      have g1 : (0 : Int) ≤ (i : Int) := by omega
      have g2 : (i : Int) < (ln : Int) := by omega
      have g3 : (i : Int) < (ln : Int) + 1 := by omega
      have hN := unhide hln
      obtain ⟨n1, n2, n3, n4, n5, n6, n7⟩ := unhide HI
      have hh := unhide hhi
      have hll := unhide h0l
      obtain ⟨b, off, rfl, hb, hc⟩ : ∃ b off, la = some ⟨b, off, none⟩ ∧ b < w0.heap.size ∧ ∀ i y, x.nd.l[i]? = some y → ∃ u0 u1 u2 u3, w0.cell? ⟨b, off + i * 4, none⟩ = some u0 ∧ w0.cell? ⟨b, off + i * 4 + 1, none⟩ = some u1 ∧ w0.cell? ⟨b, off + i * 4 + 2, none⟩ = some u2 ∧ w0.cell? ⟨b, off + i * 4 + 3, none⟩ = some u3 ∧ RpAt w0 d y u0 u1 u2 u3 := by
        rcases unhide HR with h | h
        · have := unhide hln; rw [h] at this; simp at this; omega
        · exact h
      obtain ⟨y, hy⟩ : ∃ y, x.nd.l[i]? = some y := ⟨_, List.getElem?_eq_getElem (by omega)⟩
      obtain ⟨v0, v1, v2, v3, e0, e1, e2, e3, r⟩ := hc i y hy
      obtain ⟨u0, u1, u2, u3, hu, hLn⟩ := (unhide hL).rest i y (Nat.le_refl _) hy
      have i0 := I_le n6 (Nat.zero_le i)
      have i1 := I_le n6 (show i + 1 ≤ x.nd.l.length by omega)
      have i2 := n6 i
      have h0 : Below w0.heap.size w0 wr := (unhide h0w).trans ⟨(unhide hL).kept.os, (unhide hL).kept.tape, (unhide hL).kept.output, (unhide hL).kept.size, fun b hb => (unhide hL).kept.blk b (by have := (unhide h0w).size; omega) (fun q => by omega)⟩
      have ca : ∀ {W : World}, W.heap[gl]? = wr.heap[gl]? → W.cell? ⟨gl, i * 4, none⟩ = some u0 ∧ W.cell? ⟨gl, i * 4 + 1, none⟩ = some u1 ∧ W.cell? ⟨gl, i * 4 + 2, none⟩ = some u2 ∧ W.cell? ⟨gl, i * 4 + 3, none⟩ = some u3 := fun {W} h => by
        refine ⟨?_, ?_, ?_, ?_⟩
        · rw [cell_same h]; simpa using hu 0 _ rfl
        · rw [cell_same h]; simpa using hu 1 _ rfl
        · rw [cell_same h]; simpa using hu 2 _ rfl
        · rw [cell_same h]; simpa using hu 3 _ rfl
      have cb : ∀ {W : World}, Below w0.heap.size w0 W → W.cell? ⟨b, off + i * 4, none⟩ = some v0 ∧ W.cell? ⟨b, off + i * 4 + 1, none⟩ = some v1 ∧ W.cell? ⟨b, off + i * 4 + 2, none⟩ = some v2 ∧ W.cell? ⟨b, off + i * 4 + 3, none⟩ = some v3 := fun {W} h => by
        refine ⟨?_, ?_, ?_, ?_⟩
        · rw [h.cell (p := ⟨b, off + i * 4, none⟩) hb]; exact e0
        · rw [h.cell (p := ⟨b, off + i * 4 + 1, none⟩) hb]; exact e1
        · rw [h.cell (p := ⟨b, off + i * 4 + 2, none⟩) hb]; exact e2
        · rw [h.cell (p := ⟨b, off + i * 4 + 3, none⟩) hb]; exact e3
      have CM : Hid (Calls Tryz.prog 27 #[.agg #[u0, u1, u2, u3], .agg #[v0, v1, v2, v3]] wr.drew fun e w' => e = .returned (.bool true) ∧ Hid (WhL w w' lo hi #[.int .i64 k0, .int .i64 k1, .slice (some ⟨gt, 0, none⟩) tn (tn + 3), .slice (some ⟨gl, 0, none⟩) ln (ln + 1)] #[.int .i64 k0, .int .i64 k1, .slice ta tn tc, .slice (some ⟨b, off, none⟩) ln lc] d x gl I (i + 1)) ∧ (w'.cell? ⟨gl, i * 4, none⟩ = some u0 ∧ w'.cell? ⟨gl, i * 4 + 1, none⟩ = some u1 ∧ w'.cell? ⟨gl, i * 4 + 2, none⟩ = some u2 ∧ w'.cell? ⟨gl, i * 4 + 3, none⟩ = some u3 ∧ w'.cell? ⟨w.heap.size + 1, 3, none⟩ = some (.slice (some ⟨b, off, none⟩) ln lc) ∧ w'.cell? ⟨b, off + i * 4, none⟩ = some v0 ∧ w'.cell? ⟨b, off + i * 4 + 1, none⟩ = some v1 ∧ w'.cell? ⟨b, off + i * 4 + 2, none⟩ = some v2 ∧ w'.cell? ⟨b, off + i * 4 + 3, none⟩ = some v3)) := hide (by
        have lnd : LnAt wr.drew d y (I i) (I (i + 1)) u0 u1 u2 u3 := hLn.same (fun _ _ _ => rfl)
        have szk := (unhide hL).kept.size
        refine (unhide IH wr.drew y (I i) (I (i + 1)) u0 u1 u2 u3 v0 v1 v2 v3 (List.mem_of_getElem? hy) lnd (by show _ ≤ wr.heap.size; omega) r h0.drew (by omega)).mono ?_
        rintro e w' ⟨rfl, k⟩
        have kk : Kept (fun b => I i ≤ b ∧ b < I (i + 1)) wr w' := ⟨(unhide k).os, (unhide k).tape, (unhide k).output, (unhide k).size, (unhide k).blk⟩
        have nx := (unhide hL).step n6 n7 hh n5 (by omega) (by omega) kk
        have hb' : Below w0.heap.size w0 w' := h0.trans ⟨kk.os, kk.tape, kk.output, kk.size, fun b hb => kk.blk b (by have := h0.size; omega) (fun q => by omega)⟩
        obtain ⟨p0, p1, p2, p3⟩ := ca (W := w') (kk.blk gl (by omega) (fun q => by omega))
        obtain ⟨q0, q1, q2, q3⟩ := cb hb'
        exact ⟨rfl, hide nx, p0, p1, p2, p3, cell_of_row _ _ _ _ _ _ nx.br, q0, q1, q2, q3⟩)
      obtain ⟨p0, p1, p2, p3⟩ := ca (W := wr) rfl
      obtain ⟨q0, q1, q2, q3⟩ := cb h0
      clear ca cb e0 e1 e2 e3 r hu hLn hc hy h0 i0 i1 i2 n1 n2 n3 n4 n5 n6 n7 hh hll hN hL IH HR hB
      go_wp2_with fail
      go_region_held3 (fun w' => w'.cell? ⟨gl, i * 4, none⟩ = some u0 ∧ w'.cell? ⟨gl, i * 4 + 1, none⟩ = some u1 ∧ w'.cell? ⟨gl, i * 4 + 2, none⟩ = some u2 ∧ w'.cell? ⟨gl, i * 4 + 3, none⟩ = some u3 ∧ w'.cell? ⟨w.heap.size + 1, 3, none⟩ = some (.slice (some ⟨b, off, none⟩) ln lc) ∧ w'.cell? ⟨b, off + i * 4, none⟩ = some v0 ∧ w'.cell? ⟨b, off + i * 4 + 1, none⟩ = some v1 ∧ w'.cell? ⟨b, off + i * 4 + 2, none⟩ = some v2 ∧ w'.cell? ⟨b, off + i * 4 + 3, none⟩ = some v3) (go_keep) (first
        | (go_at_call 27; refine (unhide CM).mono ?_; rintro e w7 ⟨rfl, k7, s7⟩))
      all_goals go_wp2
      all_goals go_roundw
      all_goals first | exact ⟨i + 1, rfl, by go_num, by omega, k7⟩ | (simp [intOf]; omega)
    · obtain rfl : i = ln := by omega
      have f1 : decide ((i : Int) < (i : Int)) = false := decide_eq_false (by omega)
      go_wp2
      go_ret
      exact ⟨rfl, hide (unhide hL).kept⟩
theorem whole_any (w0 : World) : ∀ (d : Nat) (x : Tr d) (w : World) (lo hi : Nat) (u0 u1 u2 u3 v0 v1 v2 v3 : Value), LnAt w d x lo hi u0 u1 u2 u3 → hi ≤ w.heap.size → RpAt w0 d x v0 v1 v2 v3 → Below w0.heap.size w0 w → w0.heap.size ≤ lo → sz d x ≤ 16777216 → Calls Tryz.prog 27 #[.agg #[u0, u1, u2, u3], .agg #[v0, v1, v2, v3]] w fun e w' => e = .returned (.bool true) ∧ Hid (Kept (fun b => lo ≤ b ∧ b < hi) w w')
  | 0, x, w, lo, hi, u0, u1, u2, u3, v0, v1, v2, v3, h, _, _, _, _, _ => absurd h id
  | d + 1, x, w, lo, hi, u0, u1, u2, u3, v0, v1, v2, v3, h, hhi, hr, hb, hlo, hs => by
    obtain ⟨rfl, rfl, gt, gl, I, rfl, rfl, hI, hrow, hlast, hrest⟩ := h
    obtain ⟨⟨rfl, -⟩, ⟨rfl, -⟩, ⟨ta, tc, rfl, hB, hS, htn, -⟩, la, lc, rfl, hln, hat⟩ := hr
    have := sz_list x
    exact whole_walk w0 w d x _ _ ta la _ tc _ lc lo hi gt gl I (hide rfl) (hide rfl) (by omega) (by omega) (hide ⟨hB, hS⟩) (hide hat) (hide hb) (hide hlo) (hide hhi) (hide hI) (hide hrow) (hide hlast) (hide hrest)
      (hide (fun wr y lo' hi' a0 a1 a2 a3 b0 b1 b2 b3 hy hL hh hR hB' hl' => whole_any w0 d y wr lo' hi' a0 a1 a2 a3 b0 b1 b2 b3 hL hh hR hB' hl' (by have := sz_child x hy; omega)))
end Go.Proofs.YtcnlikojbkegiaaGreatDoor
