/- record: follows; the record with which bytes begin, plainly. -/
import Derived.Test.YtljeedgnjgeopaaYl
namespace Larder
set_option linter.unusedVariables false
set_option linter.unusedSimpArgs false
def folB (e a : EntP) : Bool := decide (e.seq = a.seq + 1) && decide (a.now ≤ e.now)
theorem pre_iff (R b : List Nat) : R.isPrefixOf b = true ↔ R <+: b := List.isPrefixOf_iff_prefix
/-- an entry whose record stands ahead is found -/
theorem fst_of {wr : Int → Int} {b : List Nat} {e : EntP} (h : OkE e) (hw : okE (e.toI wr) = true) (p : recE e <+: b) : fstR wr b = some e := by
  obtain ⟨r, rfl⟩ := p
  have h1 := recE_body e r
  have hl : 17 ≤ (recE e ++ r).length := by
    have := frame_len (body e)
    unfold recE
    rw [List.length_append]
    omega
  unfold fstR tkS
  dsimp only
  rw [if_pos hl, h1, Option.bind_some, rdE_body h]
  dsimp only
  rw [if_pos ⟨hw, (pre_iff _ _).2 ⟨r, rfl⟩⟩]
/-- what is found stands ahead, and may be written -/
theorem of_fst {wr : Int → Int} {b : List Nat} {e : EntP} (h : fstR wr b = some e) : okE (e.toI wr) = true ∧ recE e <+: b := by
  unfold fstR at h
  split at h
  · cases h
  · split at h
    · rename_i hh
      cases h
      exact ⟨hh.1, (pre_iff _ _).1 hh.2⟩
    · cases h
end Larder
namespace Go.Proofs.Ytljeedgnjgeopaa
open Go.ChangeShapes Go.WideShapes Go.ChangeAt Go.RowKit
set_option linter.unusedVariables false
set_option linter.unusedSimpArgs false
set_option maxRecDepth 100000
set_option maxHeartbeats 4000000
theorem okE_small {E : Larder.EntP} (h : Larder.okE (E.toI w64i) = true) (h2 : E.seq < 18446744073709551616) : 1 ≤ E.seq ∧ E.seq < 9223372036854775808 ∧ E.now ≤ 4503599627370496 := by
  have h1 := (Larder.okE_iff h).1
  have h3 := (Larder.okE_iff h).2.1
  have := wrap_le E.seq h2 h1
  have h4 : (1 : Int) ≤ IntKind.i64.wrap (E.seq : Int) := h1
  rw [this.1] at h4
  exact ⟨by omega, this.2, h3⟩
theorem follows_any (w : World) (E F : Larder.EntP) (a1 a2 : Option Addr) (n1 c1 n2 c2 : Nat) (h1 : 1 ≤ E.seq) (h2 : E.seq < 9223372036854775808) (h3 : F.seq < 9223372036854775808) :
    Calls Try.prog 49 #[.agg #[.int .i64 (E.seq : Nat), .int .u64 (E.now : Nat), .slice a1 n1 c1], .agg #[.int .i64 (F.seq : Nat), .int .u64 (F.now : Nat), .slice a2 n2 c2]] w fun e w' => e = .returned (.bool (Larder.folB E F)) ∧ Hid (Below w.heap.size w w') := by
  obtain ⟨s, t, g⟩ := E
  obtain ⟨s2, t2, g2⟩ := F
  dsimp only at h1 h2 h3 ⊢
  have hb := ((Below.refl w.heap.size w).alloc (Nat.le_refl _) (.cells #[.int .i64 (s : Nat), .int .u64 (t : Nat), .slice a1 n1 c1] 41))
  have hn := heap_alloc_new w (.cells #[.int .i64 (s : Nat), .int .u64 (t : Nat), .slice a1 n1 c1] 41)
  obtain ⟨w1, hw1⟩ : ∃ w1, w.alloc (.cells #[.int .i64 (s : Nat), .int .u64 (t : Nat), .slice a1 n1 c1] 41) = w1 := ⟨_, rfl⟩
  rw [hw1] at hb hn
  have hs1 : w1.heap.size = w.heap.size + 1 := by rw [← hw1]; simp
  have hb2 := ((Below.refl w1.heap.size w1).alloc (Nat.le_refl _) (.cells #[.int .i64 (s2 : Nat), .int .u64 (t2 : Nat), .slice a2 n2 c2] 41))
  have hn2 := heap_alloc_new w1 (.cells #[.int .i64 (s2 : Nat), .int .u64 (t2 : Nat), .slice a2 n2 c2] 41)
  obtain ⟨w2, hw2⟩ : ∃ w2, w1.alloc (.cells #[.int .i64 (s2 : Nat), .int .u64 (t2 : Nat), .slice a2 n2 c2] 41) = w2 := ⟨_, rfl⟩
  rw [hw2] at hb2 hn2
  rw [hs1] at hn2
  have hn' := (hb2.block w.heap.size (by omega)).trans hn
  have x0 : w2.cell? ⟨w.heap.size, 0, none⟩ = some (.int .i64 (s : Nat)) := cell_blk hn' 0
  have x1 : w2.cell? ⟨w.heap.size, 1, none⟩ = some (.int .u64 (t : Nat)) := cell_blk hn' 1
  have y0 : w2.cell? ⟨w.heap.size + 1, 0, none⟩ = some (.int .i64 (s2 : Nat)) := cell_blk hn2 0
  have y1 : w2.cell? ⟨w.heap.size + 1, 1, none⟩ = some (.int .u64 (t2 : Nat)) := cell_blk hn2 1
  have HB := hide (hb.trans (hb2.mono hb.size))
  have q1 : IntKind.i64.wrap ((s : Int) - 1) = ((s - 1 : Nat) : Int) := by rw [IntKind.wrap_i64]; omega
  have q2 : ((s : Int) - 1) = ((s - 1 : Nat) : Int) := by omega
  have q3 : wrap64 ((s : Int) - 1) = ((s - 1 : Nat) : Int) := by unfold wrap64; omega
  obtain ⟨s1, hs⟩ : ∃ s1, s1 = s - 1 := ⟨_, rfl⟩
  rw [← hs] at q1 q2 q3
  have HQ : Hid (Larder.folB ⟨s, t, g⟩ ⟨s2, t2, g2⟩ = (decide (s1 = s2) && decide (t2 ≤ t))) := hide (by
    unfold Larder.folB
    dsimp only
    congr 1
    exact decide_eq_decide.2 (by omega))
  clear hb hn hb2 hn2 hn' hs
  by_cases e1 : s1 = s2
  · subst e1
    have f1 : decide ((s1 : Int) = (s1 : Int)) = true := decide_eq_true rfl
    by_cases e2 : t2 ≤ t
    · have f2 : decide (t2 ≤ t) = true := decide_eq_true e2
      have f3 : decide ((t2 : Int) ≤ (t : Int)) = true := decide_eq_true (by omega)
      go_enter Try.func49, Try.ntmps49
      go_wp2_with fail
      go_ret
      refine ⟨?_, HB⟩
      rw [unhide HQ, f2]
      simp
    · have f2 : decide (t2 ≤ t) = false := decide_eq_false e2
      have f3 : decide ((t2 : Int) ≤ (t : Int)) = false := decide_eq_false (by omega)
      go_enter Try.func49, Try.ntmps49
      go_wp2_with fail
      go_ret
      refine ⟨?_, HB⟩
      rw [unhide HQ, f2]
      simp
  · have f1 : decide ((s1 : Int) = (s2 : Int)) = false := decide_eq_false (by omega)
    have f1' : decide (s1 = s2) = false := decide_eq_false e1
    have f1'' : ((s1 : Int) == (s2 : Int)) = false := beq_eq_false_iff_ne.2 (by omega)
    go_enter Try.func49, Try.ntmps49
    go_wp2_with fail
    go_ret
    refine ⟨?_, HB⟩
    rw [unhide HQ, f1']
    rfl
end Go.Proofs.Ytljeedgnjgeopaa
