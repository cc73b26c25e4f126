/- record: which entries may be written; Line. -/
import Derived.Test.YtljeedgnjgeopaaVa
namespace Go.Proofs.Ytljeedgnjgeopaa
open Go.ChangeShapes Go.WideShapes Go.ChangeAt Go.RowKit
set_option linter.unusedVariables false
set_option linter.unusedSimpArgs false
set_option maxRecDepth 100000
set_option maxHeartbeats 4000000
/-- commands in memory, of any database -/
def GrpI (w : World) (a : Option Addr) (g : List Larder.ActI) : Prop := g = [] ∨ ∃ b off, a = some ⟨b, off, none⟩ ∧ b < w.heap.size ∧ ∀ i x, g[i]? = some x → w.cell? ⟨b, off + i * 2, none⟩ = some (.int .i64 x.1) ∧ ∃ xa xc, w.cell? ⟨b, off + i * 2 + 1, none⟩ = some (.slice xa x.2.length xc) ∧ BL w xa x.2
theorem GrpI.below {w w' : World} {a : Option Addr} {g : List Larder.ActI} (h : GrpI w a g) (hb : Below w.heap.size w w') : GrpI w' a g := by
  rcases h with h | ⟨b, off, e, hl, hc⟩
  · exact .inl h
  · refine .inr ⟨b, off, e, Nat.lt_of_lt_of_le hl hb.size, fun i x hi => ?_⟩
    obtain ⟨k1, xa, xc, k2, k3⟩ := hc i x hi
    exact ⟨(hb.cell (p := ⟨b, off + i * 2, none⟩) hl).trans k1, xa, xc, (hb.cell (p := ⟨b, off + i * 2 + 1, none⟩) hl).trans k2, k3.below hb⟩
theorem GrpI.at {w W : World} {a : Option Addr} {l : List Larder.ActI} {i : Nat} {x : Larder.ActI} (h : GrpI w a l) (hx : l[i]? = some x) (hb : Below w.heap.size w W) : ∃ b off xa xc, a = some ⟨b, off, none⟩ ∧ b < w.heap.size ∧ W.cell? ⟨b, off + i * 2, none⟩ = some (.int .i64 x.1) ∧ W.cell? ⟨b, off + i * 2 + 1, none⟩ = some (.slice xa x.2.length xc) ∧ BL W xa x.2 := by
  rcases h with h | ⟨b, off, e, hl, hc⟩
  · rw [h] at hx; cases hx
  · obtain ⟨q1, xa, xc, q2, q3⟩ := hc i x hx
    exact ⟨b, off, xa, xc, e, hl, (hb.cell (p := ⟨b, off + i * 2, none⟩) hl).trans q1, (hb.cell (p := ⟨b, off + i * 2 + 1, none⟩) hl).trans q2, q3.below hb⟩
theorem written_any (w : World) (sq : Int) (nw : Nat) (ga : Option Addr) (gn gc : Nat) (g : List Larder.ActI) (hg : GrpI w ga g) (hgn : gn = g.length) :
    Calls Try.prog 30 #[.agg #[.int .i64 sq, .int .u64 (nw : Nat), .slice ga gn gc]] w fun e w' => e = .returned (.bool (Larder.okE ⟨sq, nw, g⟩)) ∧ Hid (Below w.heap.size w w') := by
  have hb := (Below.refl w.heap.size w).alloc (Nat.le_refl _) (.cells #[.int .i64 sq, .int .u64 (nw : Nat), .slice ga gn gc] 41)
  have hnew := heap_alloc_new w (.cells #[.int .i64 sq, .int .u64 (nw : Nat), .slice ga gn gc] 41)
  obtain ⟨w1, hw1⟩ : ∃ w1, w.alloc (.cells #[.int .i64 sq, .int .u64 (nw : Nat), .slice ga gn gc] 41) = w1 := ⟨_, rfl⟩
  rw [hw1] at hb hnew
  have x0 : w1.cell? ⟨w.heap.size, 0, none⟩ = some (.int .i64 sq) := cell_blk hnew 0
  have x1 : w1.cell? ⟨w.heap.size, 1, none⟩ = some (.int .u64 (nw : Nat)) := cell_blk hnew 1
  have x2 : w1.cell? ⟨w.heap.size, 2, none⟩ = some (.slice ga gn gc) := cell_blk hnew 2
  have HB := hide hb
  have HX := hide hg
  have HXN := hide hgn
  have HQ : Hid (Larder.okE ⟨sq, nw, g⟩ = (decide (1 ≤ sq) && (decide (nw ≤ 4503599627370496) && (decide (gn ≠ 0) && (decide (gn ≤ 64) && g.all Larder.okA))))) := hide (by unfold Larder.okE; rw [hgn])
  clear hb hnew hg hgn
  go_enter Try.func30, Try.ntmps30
  by_cases h1 : sq < 1
  · have f1 : decide (sq < 1) = true := decide_eq_true h1
    go_wp2_with fail
    go_ret
    refine ⟨?_, HB⟩
    have HZ : Larder.okE ⟨sq, nw, g⟩ = false := by rw [unhide HQ, decide_eq_false (by omega : ¬ 1 ≤ sq), Bool.false_and]
    rw [HZ]
    rfl
  have f1 : decide (sq < 1) = false := decide_eq_false h1
  by_cases h2 : 4503599627370496 < nw
  · have f2 : decide (4503599627370496 < nw) = true := decide_eq_true h2
    have f2' : decide ((nw : Int) > 4503599627370496) = true := decide_eq_true (by omega)
    have f2'' : decide ((4503599627370496 : Int) < (nw : Int)) = true := decide_eq_true (by omega)
    go_wp2_with fail
    go_ret
    refine ⟨?_, HB⟩
    have HZ : Larder.okE ⟨sq, nw, g⟩ = false := by rw [unhide HQ, decide_eq_false (by omega : ¬ nw ≤ 4503599627370496)]; simp
    rw [HZ]
    rfl
  have f2 : decide (4503599627370496 < nw) = false := decide_eq_false h2
  have f2' : decide ((nw : Int) > 4503599627370496) = false := decide_eq_false (by omega)
  have f2'' : decide ((4503599627370496 : Int) < (nw : Int)) = false := decide_eq_false (by omega)
  by_cases h3 : gn = 0
  · subst h3
    go_wp2_with fail
    go_ret
    refine ⟨?_, HB⟩
    have HZ : Larder.okE ⟨sq, nw, g⟩ = false := by rw [unhide HQ]; simp
    rw [HZ]
    rfl
  have f3 : decide ((gn : Int) = 0) = false := decide_eq_false (by omega)
  have f3' : decide (gn = 0) = false := decide_eq_false h3
  by_cases h4 : 64 < gn
  · have f4 : decide ((64 : Int) < (gn : Int)) = true := decide_eq_true (by omega)
    have f4' : decide ((gn : Int) > 64) = true := decide_eq_true (by omega)
    have f4'' : decide (64 < gn) = true := decide_eq_true h4
    go_wp2_with fail
    go_ret
    refine ⟨?_, HB⟩
    have HZ : Larder.okE ⟨sq, nw, g⟩ = false := by rw [unhide HQ, decide_eq_false (by omega : ¬ gn ≤ 64)]; simp
    rw [HZ]
    rfl
  have f4 : decide ((64 : Int) < (gn : Int)) = false := decide_eq_false (by omega)
  have f4' : decide ((gn : Int) > 64) = false := decide_eq_false (by omega)
  have f4'' : decide (64 < gn) = false := decide_eq_false h4
  have HQ2 : Hid (Larder.okE ⟨sq, nw, g⟩ = g.all Larder.okA) := hide (by rw [unhide HQ, decide_eq_true (by omega : 1 ≤ sq), decide_eq_true (by omega : nw ≤ 4503599627370496), decide_eq_true h3, decide_eq_true (by omega : gn ≤ 64)]; simp)
  clear HQ
  go_wp2_with fail
  clear x0 x1 x2
  go_loopw [28] (fun iv wr => ∃ (i : Nat), iv = .int .i64 ((i : Nat) : Int) ∧ i ≤ gn ∧ Hid (Below w.heap.size w wr) ∧ Hid (∀ k x, k < i → g[k]? = some x → Larder.okA x = true)) (fun iv _ => gn - (intOf iv).toNat)
  case atStart => exact ⟨0, rfl, Nat.zero_le _, HB, hide (fun k x hk => by omega)⟩
  case round =>
    clear HB
    obtain ⟨i, rfl, hi, HB, HK⟩ := hrel
    by_cases hin : i < gn
    · have e1 : decide ((i : Int) < (gn : Int)) = true := decide_eq_true (by omega)
      have e2 : decide (i < gn) = true := decide_eq_true hin
      have g1 : (0 : Int) ≤ (i : Int) := by omega
      have g2 : (i : Int) < (gn : Int) := by omega
      obtain ⟨x, hx⟩ : ∃ x, g[i]? = some x := ⟨_, List.getElem?_eq_getElem (by have := unhide HXN; omega)⟩
      obtain ⟨b, off, xa, xc, rfl, hb, u1, u2, uB⟩ := (unhide HX).at hx (unhide HB)
      have hal := (Below.refl wr.heap.size wr).alloc (Nat.le_refl _) (.cells #[.int .i64 x.1, .slice xa x.2.length xc] 64)
      have hnew := heap_alloc_new wr (.cells #[.int .i64 x.1, .slice xa x.2.length xc] 64)
      have C41 := given_any (wr.alloc (.cells #[.int .i64 x.1, .slice xa x.2.length xc] 64)) x.1 xa x.2.length xc x.2 (uB.below hal) rfl
      have y0 : (wr.alloc (.cells #[.int .i64 x.1, .slice xa x.2.length xc] 64)).cell? ⟨wr.heap.size, 0, none⟩ = some (.int .i64 x.1) := cell_blk hnew 0
      have y1 : (wr.alloc (.cells #[.int .i64 x.1, .slice xa x.2.length xc] 64)).cell? ⟨wr.heap.size, 1, none⟩ = some (.slice xa x.2.length xc) := cell_blk hnew 1
      have HAL := hide hal
      have HXI := hide hx
      have hsz : Hid (w.heap.size ≤ wr.heap.size) := hide (unhide HB).size
      clear hx uB hal hnew
      by_cases h5 : Larder.okA x = true
      · have C41' : Calls Try.prog 41 #[.agg #[.int .i64 x.1, .slice xa x.2.length xc]] (wr.alloc (.cells #[.int .i64 x.1, .slice xa x.2.length xc] 64)) fun e w' => e = .returned (.bool true) ∧ Hid (Below w.heap.size w w') := C41.mono fun e w' ⟨q1, q2⟩ => ⟨by rw [q1]; congr 2, hide ((unhide HB).trans (((unhide HAL).trans ((unhide q2).mono (unhide HAL).size)).mono (unhide hsz)))⟩
        clear C41
        go_wp2_with (go_at_call 41; refine C41'.mono ?_; clear C41'; rintro e w2 ⟨rfl, k2⟩)
        all_goals go_roundw
        case rel => exact ⟨i + 1, by go_num, by omega, k2, hide (fun k y hk hy => by
          by_cases hk2 : k < i
          · exact (unhide HK) k y hk2 hy
          · obtain rfl : k = i := by omega
            rw [unhide HXI] at hy
            cases hy
            exact h5)⟩
        case measure => simp [intOf]; omega
      · have C41' : Calls Try.prog 41 #[.agg #[.int .i64 x.1, .slice xa x.2.length xc]] (wr.alloc (.cells #[.int .i64 x.1, .slice xa x.2.length xc] 64)) fun e w' => e = .returned (.bool false) ∧ Hid (Below w.heap.size w w') := C41.mono fun e w' ⟨q1, q2⟩ => ⟨by rw [q1]; congr 2; simpa using h5, hide ((unhide HB).trans (((unhide HAL).trans ((unhide q2).mono (unhide HAL).size)).mono (unhide hsz)))⟩
        clear C41
        go_wp2_with (go_at_call 41; refine C41'.mono ?_; clear C41'; rintro e w2 ⟨rfl, k2⟩)
        go_ret
        refine ⟨?_, k2⟩
        have HZ : g.all Larder.okA = false := by
          rw [List.all_eq_false]
          exact ⟨x, List.mem_of_getElem? (unhide HXI), h5⟩
        rw [unhide HQ2, HZ]
        rfl
    · obtain rfl : i = gn := by omega
      have e1 : decide ((i : Int) < (i : Int)) = false := decide_eq_false (by omega)
      have e2 : decide (i < i) = false := decide_eq_false (by omega)
      go_wp2_with fail
      go_ret
      refine ⟨?_, HB⟩
      have HZ : g.all Larder.okA = true := by
        rw [List.all_eq_true]
        intro x hx
        obtain ⟨k, hk, rfl⟩ := List.getElem_of_mem hx
        exact (unhide HK) k _ (by have := unhide HXN; omega) (List.getElem?_eq_getElem hk)
      rw [unhide HQ2, HZ]
      rfl
end Go.Proofs.Ytljeedgnjgeopaa
