/- record: the document's Opening, May. -/
import Derived.Test.YtljeedgnjgeopaaUb
namespace Larder
/-- what Opening tells of some arguments -/
def openN (xs : List (List Nat)) : Int := if xs.length = 0 ∨ 128 < xs.length then 319 else if okT xs = true then 0 else 309
theorem openN_ok {d : Int} {xs : List (List Nat)} (h0 : 0 ≤ d) (h3 : d ≤ 3) : okA (d, xs) = decide (openN xs = 0) := by
  unfold okA openN
  dsimp only
  rw [decide_eq_true h0, decide_eq_true (by omega : d < 4)]
  by_cases h : xs.length = 0 ∨ 128 < xs.length
  · rw [if_pos h]
    rcases h with h | h
    · rw [decide_eq_false (by omega : ¬ xs.length ≠ 0)]; rfl
    · rw [decide_eq_false (by omega : ¬ xs.length ≤ 128)]; simp
  · rw [if_neg h, decide_eq_true (by omega : xs.length ≠ 0), decide_eq_true (by omega : xs.length ≤ 128)]
    cases okT xs <;> simp
end Larder
namespace Go.Proofs.Ytljeedgnjgeopaa
open Go.ChangeShapes Go.WideShapes Go.ChangeAt Go.RowKit Go.Shelf
set_option linter.unusedVariables false
set_option linter.unusedSimpArgs false
set_option maxRecDepth 100000
set_option maxHeartbeats 4000000
theorem opening_any (w : World) (a : Option Addr) (n c : Nat) (xs : List (List Nat)) (hn : n = xs.length) (hB : BL w a xs) : Calls Try.prog 45 #[.slice a n c, .int .i64 0] w fun e w' => e = .returned (.int .i64 (Larder.openN xs)) ∧ w' = w := by
  have HB := hide hB
  have HN := hide hn
  have HQ : Hid (Larder.openN xs = if n = 0 ∨ 128 < n then 319 else if Larder.okT xs = true then 0 else 309) := hide (by unfold Larder.openN; rw [hn])
  clear hB hn
  go_enter Try.func45, Try.ntmps45
  by_cases h0 : n = 0
  · subst h0
    go_wp2_with fail
    go_ret
    exact ⟨by rw [unhide HQ]; rfl, rfl⟩
  have f1 : decide ((n : Int) = 0) = false := decide_eq_false (by omega)
  have f1b : ((n : Int) == 0) = false := beq_eq_false_iff_ne.2 (by omega)
  have f1c : (n == 0) = false := beq_eq_false_iff_ne.2 h0
  have f1d : decide (n = 0) = false := decide_eq_false h0
  by_cases h1 : 128 < n
  · have f2 : decide ((128 : Int) < (n : Int)) = true := decide_eq_true (by omega)
    have f2b : decide ((n : Int) > 128) = true := f2
    have f2c : decide (128 < n) = true := decide_eq_true h1
    have HR : Hid (Larder.openN xs = 319) := hide (by rw [unhide HQ, if_pos (Or.inr h1)])
    clear HQ h1
    go_wp2_with fail
    go_ret
    exact ⟨by rw [unhide HR]; rfl, rfl⟩
  have f2 : decide ((128 : Int) < (n : Int)) = false := decide_eq_false (by omega)
  have f2b : decide ((n : Int) > 128) = false := f2
  have f2c : decide (128 < n) = false := decide_eq_false h1
  have HQ2 : Hid (Larder.openN xs = if Larder.okT xs = true then 0 else 309) := hide (by rw [unhide HQ, if_neg (by omega)])
  clear HQ
  go_wp2_with fail
  go_loopw [5] (fun iv wr => ∃ i : Nat, iv = .int .i64 ((i : Nat) : Int) ∧ i ≤ n ∧ Hid (wr = w ∧ ∀ k T, k < i → xs[k]? = some T → T.length ≤ 4096)) (fun iv _ => n - (intOf iv).toNat)
  case atStart => exact ⟨0, rfl, Nat.zero_le _, hide ⟨rfl, fun k T hk => by omega⟩⟩
  case round =>
    obtain ⟨i, rfl, hi, HW⟩ := hrel
    obtain ⟨hw, hk⟩ := unhide HW
    subst hw
    by_cases hin : i < n
    · have e1 : decide ((i : Int) < (n : Int)) = true := decide_eq_true (by omega)
      have e2 : decide (i < n) = true := decide_eq_true hin
      have g1 : (0 : Int) ≤ (i : Int) := by omega
      have g2 : (i : Int) < (n : Int) := by omega
      obtain ⟨T, hT⟩ : ∃ T, xs[i]? = some T := ⟨_, List.getElem?_eq_getElem (by have := unhide HN; omega)⟩
      obtain ⟨ga, oa, rfl, ai, ci, k1⟩ : ∃ ga oa, a = some ⟨ga, oa, none⟩ ∧ ∃ ai ci, wr.cell? ⟨ga, oa + i, none⟩ = some (.slice ai T.length ci) := by
        rcases unhide HB with h | ⟨ga, oa, e, hl, hc⟩
        · rw [h] at hT; cases hT
        · obtain ⟨ai, ci, q1, q2⟩ := hc i T hT
          exact ⟨ga, oa, e, ai, ci, q1⟩
      by_cases hl : 4096 < T.length
      · have HR : Hid (Larder.openN xs = 309) := hide (by
          rw [unhide HQ2, if_neg]
          intro h
          unfold Larder.okT at h
          rw [List.all_eq_true] at h
          have := h T (List.mem_of_getElem? hT)
          simp at this
          omega)
        generalize T.length = t at k1 hl
        have f5 : decide ((4096 : Int) < (t : Int)) = true := decide_eq_true (by omega)
        have f5b : decide ((t : Int) > 4096) = true := f5
        have f5c : decide (4096 < t) = true := decide_eq_true hl
        clear hk hT hl HW HQ2
        go_wp2_with fail
        go_ret
        exact ⟨by rw [unhide HR]; rfl, rfl⟩
      · have HK : Hid (∀ k U, k < i + 1 → xs[k]? = some U → U.length ≤ 4096) := hide (fun k U hk2 hU => by
          by_cases e : k < i
          · exact hk k U e hU
          · obtain rfl : k = i := by omega
            rw [hT] at hU
            cases hU
            omega)
        generalize T.length = t at k1 hl
        have f5 : decide ((4096 : Int) < (t : Int)) = false := decide_eq_false (by omega)
        have f5b : decide ((t : Int) > 4096) = false := f5
        have f5c : decide (4096 < t) = false := decide_eq_false hl
        clear hk hT hl HW
        go_wp2_with fail
        exact ⟨⟨i + 1, congrArg (Value.int .i64) (by omega), by omega, hide ⟨trivial, unhide HK⟩⟩, by simp [intOf]; omega⟩
    · obtain rfl : n = i := by omega
      have e1 : decide ((n : Int) < (n : Int)) = false := decide_eq_false (by omega)
      have e9 : decide (n < n) = false := decide_eq_false (by omega)
      have HR : Hid (Larder.openN xs = 0) := hide (by
        rw [unhide HQ2, if_pos]
        unfold Larder.okT
        rw [List.all_eq_true]
        intro T hT
        obtain ⟨k, hkk⟩ := List.getElem?_of_mem hT
        have := hk k T (by have := (List.getElem?_eq_some_iff.1 hkk).1; have := unhide HN; omega) hkk
        simpa using this)
      clear hk HW HQ2
      go_wp2_with fail
      go_ret
      exact ⟨by rw [unhide HR]; rfl, rfl⟩
theorem may_any (w : World) (sq : Int) (nw : Nat) (ga : Option Addr) (gn gc : Nat) (g : List Larder.ActI) (hg : GrpI w ga g) (hgn : gn = g.length) :
    Calls Try.prog 32 #[.agg #[.int .i64 sq, .int .u64 (nw : Nat), .slice ga gn gc]] w fun e w' => e = .returned (.bool (Larder.okE ⟨sq, nw, g⟩)) ∧ Hid (Below w.heap.size w w') := by
  have hb := (Below.refl w.heap.size w).alloc (Nat.le_refl _) (.cells #[.int .i64 sq, .int .u64 (nw : Nat), .slice ga gn gc] 41)
  have hnew := heap_alloc_new w (.cells #[.int .i64 sq, .int .u64 (nw : Nat), .slice ga gn gc] 41)
  obtain ⟨w1, hw1⟩ : ∃ w1, w.alloc (.cells #[.int .i64 sq, .int .u64 (nw : Nat), .slice ga gn gc] 41) = w1 := ⟨_, rfl⟩
  rw [hw1] at hb hnew
  have x0 : w1.cell? ⟨w.heap.size, 0, none⟩ = some (.int .i64 sq) := cell_blk hnew 0
  have x1 : w1.cell? ⟨w.heap.size, 1, none⟩ = some (.int .u64 (nw : Nat)) := cell_blk hnew 1
  have x2 : w1.cell? ⟨w.heap.size, 2, none⟩ = some (.slice ga gn gc) := cell_blk hnew 2
  have HB := hide hb
  have HX := hide hg
  have HXN := hide hgn
  have hlt1 : w.heap.size < w1.heap.size := blk_lt hnew
  have HQ : Hid (Larder.okE ⟨sq, nw, g⟩ = (decide (1 ≤ sq) && (decide (nw ≤ 4503599627370496) && (decide (gn ≠ 0) && (decide (gn ≤ 64) && g.all Larder.okA))))) := hide (by unfold Larder.okE; rw [hgn])
  clear hb hnew hg hgn
  go_enter Try.func32, Try.ntmps32
  by_cases h1 : sq < 1
  · have f1 : decide (sq < 1) = true := decide_eq_true h1
    go_wp2_with fail
    go_ret
    refine ⟨?_, HB⟩
    have HZ : Larder.okE ⟨sq, nw, g⟩ = false := by rw [unhide HQ, decide_eq_false (by omega : ¬ 1 ≤ sq), Bool.false_and]
    rw [HZ]
    rfl
  have f1 : decide (sq < 1) = false := decide_eq_false h1
  by_cases h2 : 4503599627370496 < nw
  · have f2 : decide (4503599627370496 < nw) = true := decide_eq_true h2
    have f2' : decide ((nw : Int) > 4503599627370496) = true := decide_eq_true (by omega)
    have f2'' : decide ((4503599627370496 : Int) < (nw : Int)) = true := decide_eq_true (by omega)
    go_wp2_with fail
    go_ret
    refine ⟨?_, HB⟩
    have HZ : Larder.okE ⟨sq, nw, g⟩ = false := by rw [unhide HQ, decide_eq_false (by omega : ¬ nw ≤ 4503599627370496)]; simp
    rw [HZ]
    rfl
  have f2 : decide (4503599627370496 < nw) = false := decide_eq_false h2
  have f2' : decide ((nw : Int) > 4503599627370496) = false := decide_eq_false (by omega)
  have f2'' : decide ((4503599627370496 : Int) < (nw : Int)) = false := decide_eq_false (by omega)
  by_cases h3 : gn = 0
  · subst h3
    go_wp2_with fail
    go_ret
    refine ⟨?_, HB⟩
    have HZ : Larder.okE ⟨sq, nw, g⟩ = false := by rw [unhide HQ]; simp
    rw [HZ]
    rfl
  have f3 : decide ((gn : Int) = 0) = false := decide_eq_false (by omega)
  have f3' : decide (gn = 0) = false := decide_eq_false h3
  have f3b : ((gn : Int) == 0) = false := beq_eq_false_iff_ne.2 (by omega)
  have f3c : (gn == 0) = false := beq_eq_false_iff_ne.2 h3
  by_cases h4 : 64 < gn
  · have f4 : decide ((64 : Int) < (gn : Int)) = true := decide_eq_true (by omega)
    have f4' : decide ((gn : Int) > 64) = true := decide_eq_true (by omega)
    have f4'' : decide (64 < gn) = true := decide_eq_true h4
    go_wp2_with fail
    go_ret
    refine ⟨?_, HB⟩
    have HZ : Larder.okE ⟨sq, nw, g⟩ = false := by rw [unhide HQ, decide_eq_false (by omega : ¬ gn ≤ 64)]; simp
    rw [HZ]
    rfl
  have f4 : decide ((64 : Int) < (gn : Int)) = false := decide_eq_false (by omega)
  have f4' : decide ((gn : Int) > 64) = false := decide_eq_false (by omega)
  have f4'' : decide (64 < gn) = false := decide_eq_false h4
  have HQ2 : Hid (Larder.okE ⟨sq, nw, g⟩ = g.all Larder.okA) := hide (by rw [unhide HQ, decide_eq_true (by omega : 1 ≤ sq), decide_eq_true (by omega : nw ≤ 4503599627370496), decide_eq_true h3, decide_eq_true (by omega : gn ≤ 64)]; simp)
  clear HQ
  go_wp2_with fail
  go_loopw [3] (fun iv wr => ∃ (i : Nat), iv = .int .i64 ((i : Nat) : Int) ∧ i ≤ gn ∧ Hid (Below w1.heap.size w1 wr) ∧ Hid (∀ k x, k < i → g[k]? = some x → Larder.okA x = true)) (fun iv _ => gn - (intOf iv).toNat)
  case atStart => exact ⟨0, rfl, Nat.zero_le _, hide (Below.refl _ _), hide (fun k x hk => by omega)⟩
  case round =>
    obtain ⟨i, rfl, hi, HC, HK⟩ := hrel
    replace x2 := ((unhide HC).cell (p := ⟨w.heap.size, 2, none⟩) hlt1).trans x2
    clear x0 x1
    have HBW : Hid (Below w.heap.size w wr) := hide ((unhide HB).trans ((unhide HC).mono (unhide HB).size))
    by_cases hin : i < gn
    · have e1 : decide ((i : Int) < (gn : Int)) = true := decide_eq_true (by omega)
      have e2 : decide (i < gn) = true := decide_eq_true hin
      have g1 : (0 : Int) ≤ (i : Int) := by omega
      have g2 : (i : Int) < (gn : Int) := by omega
      obtain ⟨⟨d, V⟩, hx⟩ : ∃ x, g[i]? = some x := ⟨_, List.getElem?_eq_getElem (by have := unhide HXN; omega)⟩
      obtain ⟨b, off, xa, xc, rfl, hb, u1, u2, uB⟩ := (unhide HX).at hx (unhide HBW)
      dsimp only at u1 u2 uB
      have hal := (Below.refl wr.heap.size wr).alloc (Nat.le_refl _) (.cells #[.int .i64 d, .slice xa V.length xc] 64)
      have hnew := heap_alloc_new wr (.cells #[.int .i64 d, .slice xa V.length xc] 64)
      have C45 := hide (opening_any (wr.alloc (.cells #[.int .i64 d, .slice xa V.length xc] 64)) xa V.length xc V rfl (uB.below hal))
      have HAL := hide (unhide HC |>.trans (hal.mono (unhide HC).size))
      have HBL := hide ((unhide HBW).trans (hal.mono (unhide HBW).size))
      have HOK : Hid (Larder.okA (d, V) = true → ∀ k y, k < i + 1 → g[k]? = some y → Larder.okA y = true) := hide (fun h5 k y hk hy => by
        by_cases hk2 : k < i
        · exact (unhide HK) k y hk2 hy
        · obtain rfl : k = i := by omega
          rw [hx] at hy
          cases hy
          exact h5)
      have HNO : Hid (Larder.okA (d, V) = false → Larder.okE ⟨sq, nw, g⟩ = false) := hide (fun h5 => by
        rw [unhide HQ2, List.all_eq_false]
        exact ⟨_, List.mem_of_getElem? hx, by rw [h5]; decide⟩)
      by_cases hd0 : d < 0
      · have f5 : decide (d < 0) = true := decide_eq_true hd0
        have HZ := hide ((unhide HNO) (by unfold Larder.okA; dsimp only; rw [decide_eq_false (by omega : ¬ 0 ≤ d)]; rfl))
        generalize V.length = vn at *
        clear hx uB hal hnew HOK HNO HK
        go_wp2_with fail
        go_ret
        exact ⟨by rw [unhide HZ]; rfl, HBL⟩
      have f5 : decide (d < 0) = false := decide_eq_false hd0
      by_cases hd3 : 3 < d
      · have f6 : decide (3 < d) = true := decide_eq_true hd3
        have f6b : decide (d > 3) = true := f6
        have HZ := hide ((unhide HNO) (by unfold Larder.okA; dsimp only; rw [decide_eq_false (by omega : ¬ d < 4)]; simp))
        generalize V.length = vn at *
        clear hx uB hal hnew HOK HNO HK
        go_wp2_with fail
        go_ret
        exact ⟨by rw [unhide HZ]; rfl, HBL⟩
      have f6 : decide (3 < d) = false := decide_eq_false hd3
      have f6b : decide (d > 3) = false := f6
      have hok := Larder.openN_ok (d := d) (xs := V) (by omega) (by omega)
      by_cases ho : Larder.openN V = 0
      · rw [decide_eq_true ho] at hok
        have HOK2 := hide ((unhide HOK) hok)
        rw [ho] at C45
        generalize V.length = vn at *
        clear hx uB hal hnew HOK HNO HK hok ho
        go_wp2_with (go_at_call 45; refine (unhide C45).mono ?_; clear C45; rintro e w2 ⟨rfl, hw2⟩; obtain rfl := hw2.symm; clear hw2)
        exact ⟨⟨i + 1, congrArg (Value.int .i64) (by omega), by omega, HAL, HOK2⟩, by simp [intOf]; omega⟩
      · rw [decide_eq_false ho] at hok
        have HZ := hide ((unhide HNO) hok)
        have f7 : decide (Larder.openN V = 0) = false := decide_eq_false ho
        have f7b : (Larder.openN V != 0) = true := by simpa using ho
        generalize Larder.openN V = r at *
        generalize V.length = vn at *
        clear hx uB hal hnew HOK HNO HK hok ho
        go_wp2_with (go_at_call 45; refine (unhide C45).mono ?_; clear C45; rintro e w2 ⟨rfl, hw2⟩; obtain rfl := hw2.symm; clear hw2)
        go_ret
        exact ⟨by rw [unhide HZ]; rfl, HBL⟩
    · obtain rfl : i = gn := by omega
      have e1 : decide ((i : Int) < (i : Int)) = false := decide_eq_false (by omega)
      have e2 : decide (i < i) = false := decide_eq_false (by omega)
      have HZ : Hid (Larder.okE ⟨sq, nw, g⟩ = true) := hide (by
        rw [unhide HQ2, List.all_eq_true]
        intro x hx
        obtain ⟨k, hk⟩ := List.getElem?_of_mem hx
        exact (unhide HK) k x (by have := (List.getElem?_eq_some_iff.1 hk).1; have := unhide HXN; omega) hk)
      clear HQ2 HK
      go_wp2_with fail
      go_ret
      exact ⟨by rw [unhide HZ]; rfl, HBW⟩
end Go.Proofs.Ytljeedgnjgeopaa
