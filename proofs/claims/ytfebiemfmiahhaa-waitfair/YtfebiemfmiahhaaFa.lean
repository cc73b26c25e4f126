/- WaitFair: the statement's own book: wants. -/
import Derived.Test.YtfebiemfmiahhaaMf
namespace Go.Proofs.Ytfebiemfmiahhaa
open Go.ChangeShapes Go.WideShapes Go.ChangeAt Go.RowKit Go.Maps
set_option linter.unusedVariables false
set_option linter.unusedSimpArgs false
set_option maxRecDepth 100000
set_option maxHeartbeats 8000000
theorem wants_yes (w : World) (cn : Nat) (k : Int) (a : Option Addr) (cap t : Nat) (l : List Pl) (n : Nat) (y : Pl) (hn : n = l.length) (hn2 : n ≤ 1000000) (h : PlsAt w a l) :
    Calls Try.prog 35 #[.agg #[.int .i64 (cn : Nat), .int .i64 k, .slice a n cap, .int .u64 (t : Nat)], .agg #[.int .i64 y.1, .string (bs y.2)], .int .i64 k] w fun e w' => e = .returned (.bool (decide (y ∈ l))) ∧ Hid (Below w.heap.size w w') := by
  have HN := hide hn
  obtain ⟨B, hB⟩ : ∃ B, B = decide (y ∈ l) := ⟨_, rfl⟩
  rw [← hB]
  have HBB := hide hB
  obtain ⟨w1, hw1⟩ : ∃ w1, w.alloc (.cells #[.int .i64 (cn : Nat), .int .i64 k, .slice a n cap, .int .u64 (t : Nat)] 56) = w1 := ⟨_, rfl⟩
  obtain ⟨w2, hw2⟩ : ∃ w2, w1.alloc (.cells #[.int .i64 y.1, .string (bs y.2)] 40) = w2 := ⟨_, rfl⟩
  have hb2 : Below w.heap.size w w2 := by
    rw [← hw2, ← hw1]
    exact ((Below.refl _ _).alloc (Nat.le_refl _) _).alloc (by simp) _
  have q1 : w1.heap[w.heap.size]? = some (.cells #[.int .i64 (cn : Nat), .int .i64 k, .slice a n cap, .int .u64 (t : Nat)] 56 (0, 0)) := by rw [← hw1]; exact heap_alloc_new _ _
  have q2 : w2.heap[w1.heap.size]? = some (.cells #[.int .i64 y.1, .string (bs y.2)] 40 (0, 0)) := by rw [← hw2]; exact heap_alloc_new _ _
  have b12 : Below w1.heap.size w1 w2 := by rw [← hw2]; exact (Below.refl _ _).alloc (Nat.le_refl _) _
  have q3 := (b12.block _ (blk_lt q1)).trans q1
  have HC : Hid (∀ wr, Below w2.heap.size w2 wr → wr.cell? ⟨w.heap.size, 2, none⟩ = some (.slice a n cap) ∧ wr.cell? ⟨w.heap.size, 1, none⟩ = some (.int .i64 k) ∧ wr.cell? ⟨w1.heap.size, 0, none⟩ = some (.int .i64 y.1) ∧ wr.cell? ⟨w1.heap.size, 1, none⟩ = some (.string (bs y.2)) ∧ PlsAt wr a l) := hide fun wr hb =>
    ⟨(hb.cell (p := ⟨w.heap.size, 2, none⟩) (blk_lt q3)).trans (cell_blk q3 2), (hb.cell (p := ⟨w.heap.size, 1, none⟩) (blk_lt q3)).trans (cell_blk q3 1), (hb.cell (p := ⟨w1.heap.size, 0, none⟩) (blk_lt q2)).trans (cell_blk q2 0), (hb.cell (p := ⟨w1.heap.size, 1, none⟩) (blk_lt q2)).trans (cell_blk q2 1), (h.below hb2).below hb⟩
  have HB2 := hide hb2
  clear hn hB h hb2 q1 q2 q3 b12
  have fk : (k == k) = true := beq_self_eq_true k
  go_enter Try.func35, Try.ntmps35
  go_wp2_with fail
  clear hw1 hw2
  go_loopw [7] (fun iv wr => ∃ i : Nat, iv = .int .i64 ((i : Nat) : Int) ∧ i ≤ n ∧ Hid (Below w2.heap.size w2 wr ∧ y ∉ l.take i)) (fun iv _ => n - (intOf iv).toNat)
  case atStart => exact ⟨0, rfl, Nat.zero_le _, hide ⟨Below.refl _ _, by simp⟩⟩
  case round =>
    obtain ⟨i, rfl, hi, HO⟩ := hrel
    obtain ⟨c2, c1, e0, e1, hpl⟩ := unhide HC wr (unhide HO).1
    by_cases hin : i < n
    · have f1 : decide ((i : Int) < (n : Int)) = true := decide_eq_true (by omega)
      have g1 : (0 : Int) ≤ (i : Int) := by omega
      have g2 : (i : Int) < (n : Int) := by omega
      obtain ⟨x, hx⟩ : ∃ x, l[i]? = some x := ⟨_, List.getElem?_eq_getElem (by have := unhide HN; omega)⟩
      obtain ⟨b, off, rfl, y0, y1⟩ : ∃ b off, a = some ⟨b, off, none⟩ ∧ wr.cell? ⟨b, off + i * 2, none⟩ = some (.int .i64 x.1) ∧ wr.cell? ⟨b, off + i * 2 + 1, none⟩ = some (.string (bs x.2)) := by
        rcases hpl with h0 | ⟨pb, po, e, hlt, hc⟩
        · rw [h0] at hx; simp at hx
        · exact ⟨pb, po, e, hc i x hx⟩
      have HX := hide hx
      clear hx hpl
      have hnext : x ≠ y → y ∉ l.take (i + 1) := fun hne => by
        rw [List.take_add_one, unhide HX]
        simp only [Option.toList, List.mem_append, List.mem_singleton, not_or]
        exact ⟨(unhide HO).2, fun e => hne e.symm⟩
      have HNX := hide hnext
      clear hnext
      by_cases h1 : x.1 = y.1
      · have f2 : (x.1 == y.1) = true := by simpa using h1
        by_cases h2 : x.2 = y.2
        · have f3 : ((bs x.2).toList == (bs y.2).toList) = true := by rw [h2]; exact beq_self_eq_true _
          obtain rfl : B = true := by
            rw [unhide HBB]
            exact decide_eq_true (by rw [← show x = y from Prod.ext h1 h2]; exact List.mem_of_getElem? (unhide HX))
          clear h1 h2
          go_wp2_with fail
          go_quiet (fail)
          go_wp2_with fail
          go_ret
          exact ⟨rfl, hide ((unhide HB2).trans ((below_drewN (unhide HO).1 _).mono (unhide HB2).size))⟩
        · have f3 : ((bs x.2).toList == (bs y.2).toList) = false := by
            cases e : ((bs x.2).toList == (bs y.2).toList)
            · rfl
            · have e2 := eq_of_beq e
              have e3 : ∀ T : List UInt8, (bs T).toList = T := fun T => by unfold bs; rw [ByteArray.toList_mk]
              rw [e3, e3] at e2
              exact absurd e2 h2
          have hne : x ≠ y := fun e => h2 (by rw [e])
          have HZ := hide (unhide HNX hne)
          clear h1 h2 hne
          go_wp2_with fail
          go_quiet (fail)
          go_wp2_with fail
          refine ⟨⟨i + 1, congrArg (Value.int .i64) (by omega), by omega, hide ⟨below_drewN (unhide HO).1 _, unhide HZ⟩⟩, by simp [intOf]; omega⟩
      · have f2 : (x.1 == y.1) = false := by simpa using h1
        have hne : x ≠ y := fun e => h1 (by rw [e])
        have HZ := hide (unhide HNX hne)
        clear h1 hne
        go_wp2_with fail
        go_quiet (fail)
        go_wp2_with fail
        refine ⟨⟨i + 1, congrArg (Value.int .i64) (by omega), by omega, hide ⟨below_drewN (unhide HO).1 _, unhide HZ⟩⟩, by simp [intOf]; omega⟩
    · obtain rfl : i = n := by omega
      have f1 : decide ((i : Int) < (i : Int)) = false := decide_eq_false (by omega)
      obtain rfl : B = false := by
        rw [unhide HBB]
        have := (unhide HO).2
        rw [unhide HN, List.take_length] at this
        exact decide_eq_false this
      clear hpl
      go_wp2_with fail
      go_ret
      exact ⟨rfl, hide ((unhide HB2).trans ((unhide HO).1.mono (unhide HB2).size))⟩
theorem wants_no (w : World) (cn : Nat) (k k2 : Int) (hk : ¬ k = k2) (a : Option Addr) (cap t : Nat) (l : List Pl) (n : Nat) (y : Pl) (hn : n = l.length) (hn2 : n ≤ 1000000) (h : PlsAt w a l) :
    Calls Try.prog 35 #[.agg #[.int .i64 (cn : Nat), .int .i64 k, .slice a n cap, .int .u64 (t : Nat)], .agg #[.int .i64 y.1, .string (bs y.2)], .int .i64 k2] w fun e w' => e = .returned (.bool false) ∧ Hid (Below w.heap.size w w') := by
  have HN := hide hn
  obtain ⟨w1, hw1⟩ : ∃ w1, w.alloc (.cells #[.int .i64 (cn : Nat), .int .i64 k, .slice a n cap, .int .u64 (t : Nat)] 56) = w1 := ⟨_, rfl⟩
  obtain ⟨w2, hw2⟩ : ∃ w2, w1.alloc (.cells #[.int .i64 y.1, .string (bs y.2)] 40) = w2 := ⟨_, rfl⟩
  have hb2 : Below w.heap.size w w2 := by
    rw [← hw2, ← hw1]
    exact ((Below.refl _ _).alloc (Nat.le_refl _) _).alloc (by simp) _
  have q1 : w1.heap[w.heap.size]? = some (.cells #[.int .i64 (cn : Nat), .int .i64 k, .slice a n cap, .int .u64 (t : Nat)] 56 (0, 0)) := by rw [← hw1]; exact heap_alloc_new _ _
  have q2 : w2.heap[w1.heap.size]? = some (.cells #[.int .i64 y.1, .string (bs y.2)] 40 (0, 0)) := by rw [← hw2]; exact heap_alloc_new _ _
  have b12 : Below w1.heap.size w1 w2 := by rw [← hw2]; exact (Below.refl _ _).alloc (Nat.le_refl _) _
  have q3 := (b12.block _ (blk_lt q1)).trans q1
  have HC : Hid (∀ wr, Below w2.heap.size w2 wr → wr.cell? ⟨w.heap.size, 2, none⟩ = some (.slice a n cap) ∧ wr.cell? ⟨w.heap.size, 1, none⟩ = some (.int .i64 k) ∧ wr.cell? ⟨w1.heap.size, 0, none⟩ = some (.int .i64 y.1) ∧ wr.cell? ⟨w1.heap.size, 1, none⟩ = some (.string (bs y.2)) ∧ PlsAt wr a l) := hide fun wr hb =>
    ⟨(hb.cell (p := ⟨w.heap.size, 2, none⟩) (blk_lt q3)).trans (cell_blk q3 2), (hb.cell (p := ⟨w.heap.size, 1, none⟩) (blk_lt q3)).trans (cell_blk q3 1), (hb.cell (p := ⟨w1.heap.size, 0, none⟩) (blk_lt q2)).trans (cell_blk q2 0), (hb.cell (p := ⟨w1.heap.size, 1, none⟩) (blk_lt q2)).trans (cell_blk q2 1), (h.below hb2).below hb⟩
  have HB2 := hide hb2
  clear hn h hb2 q1 q2 q3 b12
  have fk : (k == k2) = false := by simpa using hk
  clear hk
  go_enter Try.func35, Try.ntmps35
  go_wp2_with fail
  clear hw1 hw2
  go_loopw [7] (fun iv wr => ∃ i : Nat, iv = .int .i64 ((i : Nat) : Int) ∧ i ≤ n ∧ Hid (Below w2.heap.size w2 wr ∧ True)) (fun iv _ => n - (intOf iv).toNat)
  case atStart => exact ⟨0, rfl, Nat.zero_le _, hide ⟨Below.refl _ _, trivial⟩⟩
  case round =>
    obtain ⟨i, rfl, hi, HO⟩ := hrel
    obtain ⟨c2, c1, e0, e1, hpl⟩ := unhide HC wr (unhide HO).1
    by_cases hin : i < n
    · have f1 : decide ((i : Int) < (n : Int)) = true := decide_eq_true (by omega)
      have g1 : (0 : Int) ≤ (i : Int) := by omega
      have g2 : (i : Int) < (n : Int) := by omega
      obtain ⟨x, hx⟩ : ∃ x, l[i]? = some x := ⟨_, List.getElem?_eq_getElem (by have := unhide HN; omega)⟩
      obtain ⟨b, off, rfl, y0, y1⟩ : ∃ b off, a = some ⟨b, off, none⟩ ∧ wr.cell? ⟨b, off + i * 2, none⟩ = some (.int .i64 x.1) ∧ wr.cell? ⟨b, off + i * 2 + 1, none⟩ = some (.string (bs x.2)) := by
        rcases hpl with h0 | ⟨pb, po, e, hlt, hc⟩
        · rw [h0] at hx; simp at hx
        · exact ⟨pb, po, e, hc i x hx⟩
      have HX := hide hx
      clear hx hpl
      go_wp2_with fail
      go_quiet (fail)
      go_wp2_with fail
      refine ⟨⟨i + 1, congrArg (Value.int .i64) (by omega), by omega, hide ⟨below_drewN (unhide HO).1 _, trivial⟩⟩, by simp [intOf]; omega⟩
    · obtain rfl : i = n := by omega
      have f1 : decide ((i : Int) < (i : Int)) = false := decide_eq_false (by omega)
      clear hpl
      go_wp2_with fail
      go_ret
      exact ⟨rfl, hide ((unhide HB2).trans ((unhide HO).1.mono (unhide HB2).size))⟩
theorem wants_any (w : World) (x : Wt) (a : Option Addr) (cap n : Nat) (y : Pl) (k2 : Int) (hn : n = x.places.length) (hn2 : n ≤ 1000000) (h : PlsAt w a x.places) :
    Calls Try.prog 35 #[.agg #[.int .i64 (x.conn : Nat), .int .i64 x.kind, .slice a n cap, .int .u64 (x.till : Nat)], .agg #[.int .i64 y.1, .string (bs y.2)], .int .i64 k2] w fun e w' => e = .returned (.bool (wantsB y k2 x)) ∧ Hid (Below w.heap.size w w') := by
  unfold wantsB
  by_cases hk : x.kind = k2
  · subst hk
    rw [decide_eq_true rfl, Bool.true_and]
    exact wants_yes w x.conn x.kind a cap x.till x.places n y hn hn2 h
  · rw [decide_eq_false hk, Bool.false_and]
    exact wants_no w x.conn x.kind k2 hk a cap x.till x.places n y hn hn2 h
end Go.Proofs.Ytfebiemfmiahhaa
