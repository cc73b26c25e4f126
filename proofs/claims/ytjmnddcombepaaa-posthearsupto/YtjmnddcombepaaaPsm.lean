/- sameTexts, sameHits: of two lists that hold the same. -/
import Derived.Test.YtjmnddcombepaaaPpl
namespace Go.Proofs.Ytjmnddcombepaaa
open Go.ChangeShapes Go.WideShapes Go.ChangeAt Go.RowKit Go.Maps Go.Sort
set_option linter.unusedVariables false
set_option linter.unusedSimpArgs false
set_option maxRecDepth 100000
set_option maxHeartbeats 4000000

theorem below_drew {W w : World} (h : Below W.heap.size W w) : Below W.heap.size W w.drew := ⟨h.os, h.tape, h.output, h.size, h.block⟩
theorem sameTexts_any (W : World) (base base' : Nat) (a a' : Option Addr) (n n' cap cap' : Nat) (l : List (List UInt8)) (h : OwnS W base (.slice a n cap) l) (h' : OwnS W base' (.slice a' n' cap') l) (hn : n = l.length) (hn' : n' = l.length) (hl : l.length < 4611686018427387904) :
    Calls Try.prog 41 #[.slice a n cap, .slice a' n' cap'] W fun e w' => e = .returned (.bool true) ∧ Hid (Below W.heap.size W w') := by
  obtain rfl : n' = n := by omega
  have HO := hide h
  have HO' := hide h'
  have HN := hide hn
  have hnl : n' < 4611686018427387904 := by omega
  clear h h' hn hl hn'
  have f0 : ((n' : Int) != (n' : Int)) = false := by simp
  go_enter Try.func41, Try.ntmps41
  go_wp2
  go_loopw [5] (fun iv wr => ∃ i : Nat, iv = .int .i64 (i : Nat) ∧ i ≤ n' ∧ Hid (Below W.heap.size W wr)) (fun iv _ => n' - (intOf iv).toNat)
  case atStart => exact ⟨0, rfl, Nat.zero_le _, hide (Below.refl _ _)⟩
  case round =>
    obtain ⟨i, rfl, hi, HB⟩ := hrel
    by_cases hlt : i < n'
    · have f1 : decide ((i : Int) < (n' : Int)) = true := decide_eq_true (by omega)
      have g1 : (0 : Int) ≤ (i : Int) := by omega
      have g2 : (i : Int) < (n' : Int) := by omega
      obtain ⟨g, rfl, -, hgl, hc⟩ := (unhide HO).cell (i := i) (by rw [← unhide HN]; exact hlt)
      obtain ⟨g', rfl, -, hgl', hc'⟩ := (unhide HO').cell (i := i) (by rw [← unhide HN]; exact hlt)
      have c1 : wr.cell? ⟨g, i, none⟩ = some (.string (bs (l.getD i []))) := ((unhide HB).cell (p := ⟨g, i, none⟩) hgl).trans hc
      have c2 : wr.cell? ⟨g', i, none⟩ = some (.string (bs (l.getD i []))) := ((unhide HB).cell (p := ⟨g', i, none⟩) hgl').trans hc'
      have HD := hide (below_drew (unhide HB))
      generalize bs (l.getD i []) = T at c1 c2
      clear hc hc' hgl hgl'
      go_wp2_with fail
      go_region
      all_goals (try go_wp2)
      all_goals go_roundw
      all_goals first | exact ⟨i + 1, by go_num, by omega, HD⟩ | (simp [intOf]; omega)
    · obtain rfl : i = n' := by omega
      have f1 : decide ((i : Int) < (i : Int)) = false := decide_eq_false (by omega)
      go_wp2
      go_ret
      exact ⟨rfl, HB⟩
theorem flat_get (l : List Hit) (i : Nat) (hi : i < l.length) (j : Nat) (hj : j < 3) : (l.flatMap hitC)[i * 3 + j]? = (hitC (l.getD i (0, false, [])))[j]? := by
  induction l generalizing i with
  | nil => simp at hi
  | cons x l ih =>
    cases i with
    | zero =>
      simp only [List.flatMap_cons, Nat.zero_mul, Nat.zero_add, List.getD_cons_zero]
      rw [List.getElem?_append_left (by simp [hitC]; exact hj)]
    | succ i =>
      simp only [List.flatMap_cons, List.getD_cons_succ]
      rw [List.getElem?_append_right (by simp [hitC]; omega)]
      rw [show (i + 1) * 3 + j - (hitC x).length = i * 3 + j by simp [hitC]; omega]
      exact ih i (by simpa using hi)
theorem OwnH.cell {w : World} {base : Nat} {a : Option Addr} {n cap : Nat} {l : List Hit} (h : OwnH w base (.slice a n cap) l) {i : Nat} (hi : i < l.length) : ∃ g, a = some ⟨g, 0, none⟩ ∧ g < w.heap.size ∧ w.cell? ⟨g, i * 3, none⟩ = some (.int .i64 (l.getD i (0, false, [])).1) ∧ w.cell? ⟨g, i * 3 + 1, none⟩ = some (.bool (l.getD i (0, false, [])).2.1) ∧ w.cell? ⟨g, i * 3 + 2, none⟩ = some (.string (bs (l.getD i (0, false, [])).2.2)) := by
  rcases h.2 with ⟨e, h0⟩ | ⟨g, cap, cur, e, hb, hg, h1, h2, h3, h4⟩
  · rw [h0] at hi
    exact absurd hi (Nat.not_lt_zero _)
  · cases e
    have key : ∀ j, j < 3 → w.cell? ⟨g, i * 3 + j, none⟩ = (hitC (l.getD i (0, false, [])))[j]? := fun j hj => by
      rw [cell_blk hg, ← flat_get l i hi j hj, ← h4, List.getElem?_take_of_lt (by omega), Array.getElem?_toList]
    exact ⟨g, rfl, blk_lt hg, key 0 (by omega), key 1 (by omega), key 2 (by omega)⟩
theorem sameHits_any (W : World) (base base' : Nat) (a a' : Option Addr) (n n' cap cap' : Nat) (l : List Hit) (h : OwnH W base (.slice a n cap) l) (h' : OwnH W base' (.slice a' n' cap') l) (hn : n = l.length) (hn' : n' = l.length) (hl : l.length < 4611686018427387) :
    Calls Try.prog 42 #[.slice a n cap, .slice a' n' cap'] W fun e w' => e = .returned (.bool true) ∧ Hid (Below W.heap.size W w') := by
  obtain rfl : n' = n := by omega
  have HO := hide h
  have HO' := hide h'
  have HN := hide hn
  have hnl : n' < 4611686018427387 := by omega
  clear h h' hn hl hn'
  have f0 : ((n' : Int) != (n' : Int)) = false := by simp
  go_enter Try.func42, Try.ntmps42
  go_wp2
  go_loopw [5] (fun iv wr => ∃ i : Nat, iv = .int .i64 (i : Nat) ∧ i ≤ n' ∧ Hid (Below W.heap.size W wr)) (fun iv _ => n' - (intOf iv).toNat)
  case atStart => exact ⟨0, rfl, Nat.zero_le _, hide (Below.refl _ _)⟩
  case round =>
    obtain ⟨i, rfl, hi, HB⟩ := hrel
    by_cases hlt : i < n'
    · have f1 : decide ((i : Int) < (n' : Int)) = true := decide_eq_true (by omega)
      have g1 : (0 : Int) ≤ (i : Int) := by omega
      have g2 : (i : Int) < (n' : Int) := by omega
      obtain ⟨g, rfl, hgl, p0, p1, p2⟩ := (unhide HO).cell (i := i) (by rw [← unhide HN]; exact hlt)
      obtain ⟨g', rfl, hgl', q0, q1, q2⟩ := (unhide HO').cell (i := i) (by rw [← unhide HN]; exact hlt)
      have c0 : wr.cell? ⟨g, i * 3, none⟩ = some (.int .i64 (l.getD i (0, false, [])).1) := ((unhide HB).cell (p := ⟨g, i * 3, none⟩) hgl).trans p0
      have c1 : wr.cell? ⟨g, i * 3 + 1, none⟩ = some (.bool (l.getD i (0, false, [])).2.1) := ((unhide HB).cell (p := ⟨g, i * 3 + 1, none⟩) hgl).trans p1
      have c2 : wr.cell? ⟨g, i * 3 + 2, none⟩ = some (.string (bs (l.getD i (0, false, [])).2.2)) := ((unhide HB).cell (p := ⟨g, i * 3 + 2, none⟩) hgl).trans p2
      have d0 : wr.cell? ⟨g', i * 3, none⟩ = some (.int .i64 (l.getD i (0, false, [])).1) := ((unhide HB).cell (p := ⟨g', i * 3, none⟩) hgl').trans q0
      have d1 : wr.cell? ⟨g', i * 3 + 1, none⟩ = some (.bool (l.getD i (0, false, [])).2.1) := ((unhide HB).cell (p := ⟨g', i * 3 + 1, none⟩) hgl').trans q1
      have d2 : wr.cell? ⟨g', i * 3 + 2, none⟩ = some (.string (bs (l.getD i (0, false, [])).2.2)) := ((unhide HB).cell (p := ⟨g', i * 3 + 2, none⟩) hgl').trans q2
      have HD := hide (below_drew (unhide HB))
      generalize bs (l.getD i (0, false, [])).2.2 = T at c2 d2
      generalize (l.getD i (0, false, [])).2.1 = q at c1 d1
      generalize (l.getD i (0, false, [])).1 = c at c0 d0
      clear p0 p1 p2 q0 q1 q2 hgl hgl'
      have f2 : (c != c) = false := by simp
      have f3 : (q != q) = false := by simp
      have f4 : (T.toList != T.toList) = false := by simp
      go_wp2_with fail
      go_region_held3 (fun w' => w'.cell? ⟨g, i * 3, none⟩ = some (.int .i64 c) ∧ w'.cell? ⟨g, i * 3 + 1, none⟩ = some (.bool q) ∧ w'.cell? ⟨g, i * 3 + 2, none⟩ = some (.string T) ∧ w'.cell? ⟨g', i * 3, none⟩ = some (.int .i64 c) ∧ w'.cell? ⟨g', i * 3 + 1, none⟩ = some (.bool q) ∧ w'.cell? ⟨g', i * 3 + 2, none⟩ = some (.string T)) (go_keep) (fail)
      all_goals (try go_wp2)
      all_goals go_roundw
      all_goals first | exact ⟨i + 1, by go_num, by omega, HD⟩ | (simp [intOf]; omega)
    · obtain rfl : i = n' := by omega
      have f1 : decide ((i : Int) < (i : Int)) = false := decide_eq_false (by omega)
      go_wp2
      go_ret
      exact ⟨rfl, HB⟩
end Go.Proofs.Ytjmnddcombepaaa
