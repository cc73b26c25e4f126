/- record: which entries may be written. -/
import Derived.Test.YtljeedgnjgeopaaWg
namespace Larder
set_option linter.unusedVariables false
set_option linter.unusedSimpArgs false
/-- commands and entries as they lie in memory -/
abbrev ActI := Int × List (List Nat)
structure EntI where
  seq : Int
  now : Nat
  group : List ActI
def okT (xs : List (List Nat)) : Bool := xs.all fun t => decide (t.length ≤ 4096)
def okA (a : ActI) : Bool := decide (0 ≤ a.1) && (decide (a.1 < 4) && (decide (a.2.length ≠ 0) && (decide (a.2.length ≤ 128) && okT a.2)))
def okE (e : EntI) : Bool := decide (1 ≤ e.seq) && (decide (e.now ≤ 4503599627370496) && (decide (e.group.length ≠ 0) && (decide (e.group.length ≤ 64) && e.group.all okA)))
def ActI.toP (a : ActI) : ActP := (a.1.toNat, a.2)
def EntI.toP (e : EntI) : EntP := ⟨e.seq.toNat, e.now, e.group.map ActI.toP⟩
end Larder
namespace Go.Proofs.Ytljeedgnjgeopaa
open Go.ChangeShapes Go.WideShapes Go.ChangeAt Go.RowKit
set_option linter.unusedVariables false
set_option linter.unusedSimpArgs false
set_option maxRecDepth 100000
set_option maxHeartbeats 4000000
theorem given_any (w : World) (d : Int) (xa : Option Addr) (xn xc : Nat) (xs : List (List Nat)) (hx : BL w xa xs) (hxn : xn = xs.length) :
    Calls Try.prog 41 #[.agg #[.int .i64 d, .slice xa xn xc]] w fun e w' => e = .returned (.bool (Larder.okA (d, xs))) ∧ Hid (Below w.heap.size w w') := by
  have hb := (Below.refl w.heap.size w).alloc (Nat.le_refl _) (.cells #[.int .i64 d, .slice xa xn xc] 64)
  have hnew := heap_alloc_new w (.cells #[.int .i64 d, .slice xa xn xc] 64)
  obtain ⟨w1, hw1⟩ : ∃ w1, w.alloc (.cells #[.int .i64 d, .slice xa xn xc] 64) = w1 := ⟨_, rfl⟩
  rw [hw1] at hb hnew
  have x0 : w1.cell? ⟨w.heap.size, 0, none⟩ = some (.int .i64 d) := cell_blk hnew 0
  have x1 : w1.cell? ⟨w.heap.size, 1, none⟩ = some (.slice xa xn xc) := cell_blk hnew 1
  have HB := hide hb
  have HX := hide hx
  have HXN := hide hxn
  have HQ : Hid (Larder.okA (d, xs) = (decide (0 ≤ d) && (decide (d < 4) && (decide (xn ≠ 0) && (decide (xn ≤ 128) && Larder.okT xs))))) := hide (by unfold Larder.okA; rw [hxn])
  clear hb hnew hx hxn
  go_enter Try.func41, Try.ntmps41
  by_cases h1 : d < 0
  · have f1 : decide (d < 0) = true := decide_eq_true h1
    go_wp2_with fail
    go_ret
    refine ⟨?_, HB⟩
    have HZ : Larder.okA (d, xs) = false := by rw [unhide HQ, decide_eq_false (by omega : ¬ 0 ≤ d), Bool.false_and]
    rw [HZ]
    rfl
  have f1 : decide (d < 0) = false := decide_eq_false h1
  by_cases h2 : 4 ≤ d
  · have f2 : decide (4 ≤ d) = true := decide_eq_true h2
    have f2' : decide (d ≥ 4) = true := decide_eq_true h2
    go_wp2_with fail
    go_ret
    refine ⟨?_, HB⟩
    have HZ : Larder.okA (d, xs) = false := by rw [unhide HQ, decide_eq_false (by omega : ¬ d < 4), Bool.false_and, Bool.and_false]
    rw [HZ]
    rfl
  have f2 : decide (4 ≤ d) = false := decide_eq_false h2
  have f2' : decide (d ≥ 4) = false := decide_eq_false h2
  by_cases h3 : xn = 0
  · subst h3
    go_wp2_with fail
    go_ret
    refine ⟨?_, HB⟩
    have HZ : Larder.okA (d, xs) = false := by rw [unhide HQ]; simp
    rw [HZ]
    rfl
  have f3 : decide ((xn : Int) = 0) = false := decide_eq_false (by omega)
  have f3' : decide (xn = 0) = false := decide_eq_false h3
  by_cases h4 : 128 < xn
  · have f4 : decide ((128 : Int) < (xn : Int)) = true := decide_eq_true (by omega)
    have f4' : decide ((xn : Int) > 128) = true := decide_eq_true (by omega)
    have f4'' : decide (128 < xn) = true := decide_eq_true h4
    go_wp2_with fail
    go_ret
    refine ⟨?_, HB⟩
    have HZ : Larder.okA (d, xs) = false := by rw [unhide HQ, decide_eq_false (by omega : ¬ xn ≤ 128)]; simp
    rw [HZ]
    rfl
  have f4 : decide ((128 : Int) < (xn : Int)) = false := decide_eq_false (by omega)
  have f4' : decide ((xn : Int) > 128) = false := decide_eq_false (by omega)
  have f4'' : decide (128 < xn) = false := decide_eq_false h4
  have HQ2 : Hid (Larder.okA (d, xs) = Larder.okT xs) := hide (by rw [unhide HQ, decide_eq_true (by omega : 0 ≤ d), decide_eq_true (by omega : d < 4), decide_eq_true h3, decide_eq_true (by omega : xn ≤ 128)]; simp)
  clear HQ
  go_wp2_with fail
  go_loopw [28] (fun iv wr => ∃ (i : Nat), iv = .int .i64 ((i : Nat) : Int) ∧ i ≤ xn ∧ wr = w1 ∧ Hid (∀ k, k < i → (xs.getD k []).length ≤ 4096)) (fun iv _ => xn - (intOf iv).toNat)
  case atStart => exact ⟨0, rfl, Nat.zero_le _, rfl, hide (fun k hk => by omega)⟩
  case round =>
    obtain ⟨i, rfl, hi, rfl, HK⟩ := hrel
    by_cases hin : i < xn
    · have e1 : decide ((i : Int) < (xn : Int)) = true := decide_eq_true (by omega)
      have e2 : decide (i < xn) = true := decide_eq_true hin
      have g1 : (0 : Int) ≤ (i : Int) := by omega
      have g2 : (i : Int) < (xn : Int) := by omega
      obtain ⟨t, ht⟩ : ∃ t, xs[i]? = some t := ⟨_, List.getElem?_eq_getElem (by have := unhide HXN; omega)⟩
      have htt : Hid (xs.getD i [] = t) := hide (by rw [List.getD_eq_getElem?_getD, ht]; rfl)
      obtain ⟨b, off, ta, tc, rfl, hb, u1, uB⟩ := (unhide HX).at ht (unhide HB)
      have htm := hide (List.mem_of_getElem? ht)
      clear ht uB
      by_cases h5 : 4096 < t.length
      · have e5 : decide ((4096 : Int) < (t.length : Int)) = true := decide_eq_true (by omega)
        have e5' : decide ((t.length : Int) > 4096) = true := decide_eq_true (by omega)
        have e5'' : decide (4096 < t.length) = true := decide_eq_true h5
        go_wp2_with fail
        go_ret
        refine ⟨?_, HB⟩
        have HZ : Larder.okT xs = false := by
          unfold Larder.okT
          rw [List.all_eq_false]
          exact ⟨t, unhide htm, by simp; omega⟩
        rw [unhide HQ2, HZ]
        rfl
      · have e5 : decide ((4096 : Int) < (t.length : Int)) = false := decide_eq_false (by omega)
        have e5' : decide ((t.length : Int) > 4096) = false := decide_eq_false (by omega)
        have e5'' : decide (4096 < t.length) = false := decide_eq_false h5
        go_wp2_with fail
        all_goals go_roundw
        case rel => exact ⟨i + 1, by go_num, by omega, by first | rfl | trivial, hide (fun k hk => by
          by_cases hk2 : k < i
          · exact (unhide HK) k hk2
          · obtain rfl : k = i := by omega
            rw [unhide htt]; omega)⟩
        case measure => simp [intOf]; omega
    · obtain rfl : i = xn := by omega
      have e1 : decide ((i : Int) < (i : Int)) = false := decide_eq_false (by omega)
      have e2 : decide (i < i) = false := decide_eq_false (by omega)
      go_wp2_with fail
      go_ret
      refine ⟨?_, HB⟩
      have HZ : Larder.okT xs = true := by
        unfold Larder.okT
        rw [List.all_eq_true]
        intro t ht
        obtain ⟨k, hk, rfl⟩ := List.getElem_of_mem ht
        have := (unhide HK) k (by have := unhide HXN; omega)
        rw [List.getD_eq_getElem?_getD, List.getElem?_eq_getElem hk] at this
        exact decide_eq_true this
      rw [unhide HQ2, HZ]
      rfl
end Go.Proofs.Ytljeedgnjgeopaa
