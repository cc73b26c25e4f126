/- record: the law's line, back. -/
import Derived.Test.YtljeedgnjgeopaaLe
import Derived.Test.YtljeedgnjgeopaaZf
namespace Go.Proofs.Ytljeedgnjgeopaa
open Go.ChangeShapes Go.WideShapes Go.ChangeAt Go.RowKit Go.Shelf
set_option linter.unusedVariables false
set_option linter.unusedSimpArgs false
set_option maxRecDepth 100000
set_option maxHeartbeats 4000000
/-- the bounds of what comes in -/
def BdB (g : List Larder.ActI) : Prop := g.length ≤ 140737488355328 ∧ ∀ a ∈ g, a.2.length ≤ 140737488355328 ∧ ∀ T ∈ a.2, T.length ≤ 140737488355328
theorem same_entryI (w : World) (sq : Int) (nw : Nat) (a b : Option Addr) (n c1 c2 : Nat) (g : List Larder.ActI) (hn : n = g.length) (hA : GrpI w a g) (hB : GrpI w b g) (hb : BdB g) :
    Calls Try.prog 18 #[.agg #[.int .i64 sq, .int .u64 (nw : Nat), .slice a n c1], .agg #[.int .i64 sq, .int .u64 (nw : Nat), .slice b n c2]] w fun e w' => e = .returned (.bool true) ∧ Hid (Below w.heap.size w w') := by
  obtain ⟨w0, hw0⟩ : ∃ w0, (w.alloc (.cells #[.int .i64 sq, .int .u64 (nw : Nat), .slice a n c1] 41)).alloc (.cells #[.int .i64 sq, .int .u64 (nw : Nat), .slice b n c2] 41) = w0 := ⟨_, rfl⟩
  have b1 := (Below.refl w.heap.size w).alloc (Nat.le_refl _) (.cells #[.int .i64 sq, .int .u64 (nw : Nat), .slice a n c1] 41)
  have b2 := (Below.refl _ (w.alloc (.cells #[.int .i64 sq, .int .u64 (nw : Nat), .slice a n c1] 41))).alloc (Nat.le_refl _) (.cells #[.int .i64 sq, .int .u64 (nw : Nat), .slice b n c2] 41)
  have s1 : (w.alloc (.cells #[.int .i64 sq, .int .u64 (nw : Nat), .slice a n c1] 41)).heap.size = w.heap.size + 1 := by simp
  have h1 := heap_alloc_new w (.cells #[.int .i64 sq, .int .u64 (nw : Nat), .slice a n c1] 41)
  have h2 := heap_alloc_new (w.alloc (.cells #[.int .i64 sq, .int .u64 (nw : Nat), .slice a n c1] 41)) (.cells #[.int .i64 sq, .int .u64 (nw : Nat), .slice b n c2] 41)
  have b12 := b1.trans (b2.mono (by omega))
  have h1' := (b2.block _ (by omega)).trans h1
  rw [hw0] at b2 b12 h2 h1'
  rw [s1] at h2
  have hs0 : w0.heap.size = w.heap.size + 2 := by rw [← hw0]; simp
  have HA := hide hA
  have HB := hide hB
  have HN := hide hn
  have hn2 : n ≤ 140737488355328 := by rw [hn]; exact hb.1
  have HBD := hide hb
  have H1 := hide h1'
  have H2 := hide h2
  have HB0 := hide b12
  have x0 := cell_blk h1' 0
  have x1 := cell_blk h1' 1
  have x2 := cell_blk h1' 2
  have y0 := cell_blk h2 0
  have y1 := cell_blk h2 1
  have y2 := cell_blk h2 2
  clear hA hB hn hb b1 b2 b12 h1 h2 h1' s1
  go_enter Try.func18, Try.ntmps18
  go_wp2_with fail
  go_loopw [5] (fun iv wr => ∃ i : Nat, iv = .int .i64 ((i : Nat) : Int) ∧ i ≤ n ∧ Hid (Below w0.heap.size w0 wr)) (fun iv _ => n - (intOf iv).toNat)
  case atStart => exact ⟨0, rfl, Nat.zero_le _, hide (Below.refl _ _)⟩
  case round =>
    obtain ⟨i, rfl, hi, HW⟩ := hrel
    have hW := unhide HW
    replace x2 := cell_blk ((hW.block _ (by omega)).trans (unhide H1)) 2
    replace y2 := cell_blk ((hW.block _ (by omega)).trans (unhide H2)) 2
    clear x0 x1 y0 y1
    by_cases hin : i < n
    · have f1 : decide ((i : Int) < (n : Int)) = true := decide_eq_true (by omega)
      have f3 : decide (i < n) = true := decide_eq_true hin
      have g1 : (0 : Int) ≤ (i : Int) := by omega
      have g2 : (i : Int) < (n : Int) := by omega
      obtain ⟨x, hx⟩ : ∃ x, g[i]? = some x := ⟨_, List.getElem?_eq_getElem (by have := unhide HN; omega)⟩
      obtain ⟨ga, oa, rfl, hla, k1, xa, xc, k2, k3⟩ : ∃ ga oa, a = some ⟨ga, oa, none⟩ ∧ ga < w.heap.size ∧ wr.cell? ⟨ga, oa + i * 2, none⟩ = some (.int .i64 x.1) ∧ ∃ xa xc, wr.cell? ⟨ga, oa + i * 2 + 1, none⟩ = some (.slice xa x.2.length xc) ∧ BL wr xa x.2 := by
        rcases unhide HA with h | ⟨ga, oa, e, hl, hc⟩
        · rw [h] at hx; cases hx
        · obtain ⟨q1, ai, ci, q2, q3⟩ := hc i x hx
          have hb2 := (unhide HB0).trans (hW.mono (by omega))
          exact ⟨ga, oa, e, hl, (hb2.cell (p := ⟨ga, _, none⟩) hl).trans q1, ai, ci, (hb2.cell (p := ⟨ga, _, none⟩) hl).trans q2, q3.below hb2⟩
      obtain ⟨gb, ob, rfl, hlb, k4, ya, yc, k5, k6⟩ : ∃ ga oa, b = some ⟨ga, oa, none⟩ ∧ ga < w.heap.size ∧ wr.cell? ⟨ga, oa + i * 2, none⟩ = some (.int .i64 x.1) ∧ ∃ xa xc, wr.cell? ⟨ga, oa + i * 2 + 1, none⟩ = some (.slice xa x.2.length xc) ∧ BL wr xa x.2 := by
        rcases unhide HB with h | ⟨ga, oa, e, hl, hc⟩
        · rw [h] at hx; cases hx
        · obtain ⟨q1, ai, ci, q2, q3⟩ := hc i x hx
          have hb2 := (unhide HB0).trans (hW.mono (by omega))
          exact ⟨ga, oa, e, hl, (hb2.cell (p := ⟨ga, _, none⟩) hl).trans q1, ai, ci, (hb2.cell (p := ⟨ga, _, none⟩) hl).trans q2, q3.below hb2⟩
      have hbx := (unhide HBD).2 x (List.mem_of_getElem? hx)
      have C36 := eqlists_any wr.drew xa ya x.2.length xc yc x.2 rfl k3 k6 hbx.1 hbx.2
      have HD := hide (below_drew hW)
      have hsr := hW.size
      generalize x.2.length = t at k2 k5 C36
      generalize x.1 = d at k1 k4
      have C36' : Calls Try.prog 36 #[.slice xa t xc, .slice ya t yc] wr.drew fun e w3 => e = .returned (.bool true) ∧ w3.cell? ⟨ga, oa + i * 2, none⟩ = some (.int .i64 d) ∧ w3.cell? ⟨ga, oa + i * 2 + 1, none⟩ = some (.slice xa t xc) ∧ w3.cell? ⟨gb, ob + i * 2, none⟩ = some (.int .i64 d) ∧ w3.cell? ⟨gb, ob + i * 2 + 1, none⟩ = some (.slice ya t yc) ∧ w3.cell? ⟨w.heap.size, 2, none⟩ = some (.slice (some ⟨ga, oa, none⟩) n c1) ∧ w3.cell? ⟨w.heap.size + 1, 2, none⟩ = some (.slice (some ⟨gb, ob, none⟩) n c2) ∧ Hid (Below wr.drew.heap.size wr.drew w3) := C36.mono fun e w3 h => by
        have hb := unhide h.2
        have e1 : ga < wr.drew.heap.size := by show ga < wr.heap.size; omega
        have e2 : gb < wr.drew.heap.size := by show gb < wr.heap.size; omega
        have e3 : w.heap.size < wr.drew.heap.size := by show _ < wr.heap.size; omega
        have e4 : w.heap.size + 1 < wr.drew.heap.size := by show _ < wr.heap.size; omega
        exact ⟨h.1, (hb.cell (p := ⟨ga, _, none⟩) e1).trans k1, (hb.cell (p := ⟨ga, _, none⟩) e1).trans k2, (hb.cell (p := ⟨gb, _, none⟩) e2).trans k4, (hb.cell (p := ⟨gb, _, none⟩) e2).trans k5, (hb.cell (p := ⟨w.heap.size, _, none⟩) e3).trans x2, (hb.cell (p := ⟨w.heap.size + 1, _, none⟩) e4).trans y2, h.2⟩
      have f5 : (d != d) = false := by simp
      clear hx k3 k6 hbx C36 hla hlb hsr HA HB HBD H1 H2 hW HW hs0
      go_wp2_with fail
      go_region_held3 (fun W => W.cell? ⟨ga, oa + i * 2, none⟩ = some (.int .i64 d) ∧ W.cell? ⟨ga, oa + i * 2 + 1, none⟩ = some (.slice xa t xc) ∧ W.cell? ⟨gb, ob + i * 2, none⟩ = some (.int .i64 d) ∧ W.cell? ⟨gb, ob + i * 2 + 1, none⟩ = some (.slice ya t yc) ∧ W.cell? ⟨w.heap.size, 2, none⟩ = some (.slice (some ⟨ga, oa, none⟩) n c1) ∧ W.cell? ⟨w.heap.size + 1, 2, none⟩ = some (.slice (some ⟨gb, ob, none⟩) n c2)) (go_keep) (first | (go_at_call 36; refine C36'.mono ?_; clear C36'; rintro e w3 ⟨rfl, z1, z2, z3, z4, z5, z6, H3⟩))
      all_goals go_wp2_with fail
      all_goals exact ⟨⟨i + 1, congrArg (Value.int .i64) (by omega), by omega, hide ((unhide HD).trans ((unhide H3).mono (unhide HD).size))⟩, by simp [intOf]; omega⟩
    · obtain rfl : n = i := by omega
      have f1 : decide ((n : Int) < (n : Int)) = false := decide_eq_false (by omega)
      have f9 : decide (n < n) = false := decide_eq_false (by omega)
      go_wp2_with fail
      go_ret
      exact ⟨rfl, hide ((unhide HB0).trans (hW.mono (by omega)))⟩
theorem eq_any (w : World) (a b : Option Addr) (n m c1 c2 : Nat) (l : List Nat) (hA : Bytes w a l) (hB : Bytes w b l) (hn : n = l.length) (hm : m = l.length) (hl : l.length ≤ 140737488355328) :
    Calls Try.prog 23 #[.slice a n c1, .slice b m c2] w fun e w' => e = .returned (.bool true) ∧ Hid (Below w.heap.size w w') := by
  have C37 := dcmp_any w a b n m c1 c2 l l hA hB hn hm (by omega) (by omega)
  rw [cmpL_self] at C37
  clear hA hB hn hm hl
  go_enter Try.func23, Try.ntmps23
  go_wp2_with (go_at_call 37; refine C37.mono ?_; clear C37; rintro e w3 ⟨rfl, H3⟩)
  go_ret
  exact ⟨rfl, H3⟩
end Go.Proofs.Ytljeedgnjgeopaa
namespace Go.Proofs.Ytljeedgnjgeopaa
open Go.ChangeShapes Go.WideShapes Go.ChangeAt Go.RowKit Go.Shelf
set_option linter.unusedVariables false
set_option linter.unusedSimpArgs false
set_option maxRecDepth 100000
set_option maxHeartbeats 4000000
/-- what Line says: the record, or nothing; and the number -/
def lnL (E : Larder.EntI) : List Nat := if Larder.okE E = true then Larder.recE E.toP else []
def lnF (E : Larder.EntI) : Nat := if Larder.okE E = true then 0 else 162
theorem lnF_lt (E : Larder.EntI) : lnF E < 1000 := by unfold lnF; split <;> omega
theorem lnL_le (E : Larder.EntI) (hs : Larder.SmallG E.group) (h63 : E.seq < 9223372036854775808) : (lnL E).length ≤ 33587566 := by
  unfold lnL
  split
  · rename_i h
    exact Larder.recE_le (Larder.OkE_toP h hs h63)
  · exact Nat.zero_le _
def LnU (W : World) (L : List Nat) (F : Nat) (e : Ending) (W' : World) : Prop := ∃ a n c, e = .returned (.tuple #[.slice a n c, .int .i64 (F : Nat)]) ∧ n = L.length ∧ Hid (Nw W W' (.slice a n c) ∧ RB W' (.slice a n c) L)
theorem LnEnd.u {W W' : World} {E : Larder.EntI} {e : Ending} (h : LnEnd W E e W') : LnU W (lnL E) (lnF E) e W' := by
  rcases h with ⟨h0, a, n, c, h1, h2, h3⟩ | ⟨h0, h1, h2⟩
  · unfold lnL lnF
    rw [if_pos h0, if_pos h0]
    exact ⟨a, n, c, h1, h2, h3⟩
  · unfold lnL lnF
    rw [if_neg (by rw [h0]; decide), if_neg (by rw [h0]; decide)]
    exact ⟨none, 0, 0, h1, rfl, hide ⟨⟨unhide h2, fun q hq => (by cases hq)⟩, .inl ⟨rfl, rfl⟩⟩⟩
theorem line22_any (w : World) (sq : Int) (nw : Nat) (ga : Option Addr) (gn gc : Nat) (g : List Larder.ActI) (hg : GrpI w ga g) (hgn : gn = g.length) (hs : Larder.SmallG g) (h63 : sq < 9223372036854775808) :
    Calls Try.prog 22 #[.agg #[.int .i64 sq, .int .u64 (nw : Nat), .slice ga gn gc]] w fun e w' => e = .returned (.bool true) ∧ Hid (Below w.heap.size w w') := by
  obtain ⟨w1, hw1⟩ : ∃ w1, w.alloc (.cells #[.int .i64 sq, .int .u64 (nw : Nat), .slice ga gn gc] 41) = w1 := ⟨_, rfl⟩
  have hb := (Below.refl w.heap.size w).alloc (Nat.le_refl _) (.cells #[.int .i64 sq, .int .u64 (nw : Nat), .slice ga gn gc] 41)
  have hnew := heap_alloc_new w (.cells #[.int .i64 sq, .int .u64 (nw : Nat), .slice ga gn gc] 41)
  rw [hw1] at hb hnew
  have x0 : w1.cell? ⟨w.heap.size, 0, none⟩ = some (.int .i64 sq) := cell_blk hnew 0
  have x1 : w1.cell? ⟨w.heap.size, 1, none⟩ = some (.int .u64 (nw : Nat)) := cell_blk hnew 1
  have x2 : w1.cell? ⟨w.heap.size, 2, none⟩ = some (.slice ga gn gc) := cell_blk hnew 2
  have hlL := lnL_le ⟨sq, nw, g⟩ hs h63
  have hF := lnF_lt ⟨sq, nw, g⟩
  have C15 : Hid (Calls Try.prog 15 #[.agg #[.int .i64 sq, .int .u64 (nw : Nat), .slice ga gn gc]] w1 fun e w2 => ∃ a n c, e = .returned (.tuple #[.slice a n c, .int .i64 (lnF ⟨sq, nw, g⟩ : Nat)]) ∧ w2.cell? ⟨w.heap.size, 0, none⟩ = some (.int .i64 sq) ∧ w2.cell? ⟨w.heap.size, 1, none⟩ = some (.int .u64 (nw : Nat)) ∧ w2.cell? ⟨w.heap.size, 2, none⟩ = some (.slice ga gn gc) ∧ Hid (n = (lnL ⟨sq, nw, g⟩).length ∧ Below w.heap.size w w2 ∧ RB w2 (.slice a n c) (lnL ⟨sq, nw, g⟩))) := hide ((line_any w1 sq nw ga gn gc g (hg.below hb) hgn hs h63).mono (fun e w2 h => by
    obtain ⟨a, n, c, h1, h2, h3⟩ := h.u
    have hb2 := (unhide h3).1.bel
    have hw := blk_lt hnew
    exact ⟨a, n, c, h1, (hb2.cell (p := ⟨w.heap.size, 0, none⟩) hw).trans x0, (hb2.cell (p := ⟨w.heap.size, 1, none⟩) hw).trans x1, (hb2.cell (p := ⟨w.heap.size, 2, none⟩) hw).trans x2, hide ⟨h2, hb.trans (hb2.mono hb.size), (unhide h3).2⟩⟩))
  have C16 : Hid (∀ (w2 : World) (a : Option Addr) (n c : Nat), Hid (n = (lnL ⟨sq, nw, g⟩).length ∧ Below w.heap.size w w2 ∧ RB w2 (.slice a n c) (lnL ⟨sq, nw, g⟩)) → Calls Try.prog 16 #[.agg #[.int .i64 sq, .int .u64 (nw : Nat), .slice ga gn gc]] w2 fun e w3 => ∃ a' n' c', e = .returned (.tuple #[.slice a' n' c', .int .i64 (lnF ⟨sq, nw, g⟩ : Nat)]) ∧ Hid (n = (lnL ⟨sq, nw, g⟩).length ∧ n' = (lnL ⟨sq, nw, g⟩).length ∧ Below w.heap.size w w3 ∧ RB w3 (.slice a n c) (lnL ⟨sq, nw, g⟩) ∧ RB w3 (.slice a' n' c') (lnL ⟨sq, nw, g⟩))) := hide (fun w2 a n c z => (dline_any w2 sq nw ga gn gc g (hg.below (unhide z).2.1) hgn hs h63).mono (fun e w3 h => by
    obtain ⟨a', n', c', h1, h2, h3⟩ := h.u
    have hb2 := (unhide h3).1.bel
    obtain ⟨z1, z2, z3⟩ := unhide z
    exact ⟨a', n', c', h1, hide ⟨z1, h2, z2.trans (hb2.mono z2.size), z3.below hb2, (unhide h3).2⟩⟩))
  have C23 : Hid (∀ (w3 : World) (a : Option Addr) (n c : Nat) (a' : Option Addr) (n' c' : Nat), Hid (n = (lnL ⟨sq, nw, g⟩).length ∧ n' = (lnL ⟨sq, nw, g⟩).length ∧ Below w.heap.size w w3 ∧ RB w3 (.slice a n c) (lnL ⟨sq, nw, g⟩) ∧ RB w3 (.slice a' n' c') (lnL ⟨sq, nw, g⟩)) → Calls Try.prog 23 #[.slice a n c, .slice a' n' c'] w3 fun e w4 => e = .returned (.bool true) ∧ Hid (Below w.heap.size w w4)) := hide (fun w3 a n c a' n' c' z => by
    obtain ⟨z1, z2, z3, z4, z5⟩ := unhide z
    exact (eq_any w3 a a' n n' c c' _ (RB.bytes z4).1 (RB.bytes z5).1 z1 z2 (by omega)).mono (fun e w4 h => ⟨h.1, hide (z3.trans ((unhide h.2).mono z3.size))⟩))
  generalize lnF ⟨sq, nw, g⟩ = F at hF C15 C16
  generalize lnL ⟨sq, nw, g⟩ = L at hlL C15 C16 C23
  clear hb hnew hg hgn hs h63 hlL
  go_enter Try.func22, Try.ntmps22
  go_wp2_with (first
    | (go_at_call 15; refine (unhide C15).mono ?_; clear C15; rintro e w2 ⟨a2, n2, c2, rfl, y0, y1, y2, z2⟩)
    | (go_at_call 16; refine ((unhide C16) w2 a2 n2 c2 z2).mono ?_; clear C16; rintro e w3 ⟨a3, n3, c3, rfl, z3⟩)
    | (go_at_call 17; refine (num_any w3 F hF).mono ?_; rintro e w3' ⟨rfl, hw3⟩; obtain rfl := hw3.symm)
    | (go_at_call 23; refine ((unhide C23) w3 a2 n2 c2 a3 n3 c3 z3).mono ?_; clear C23; rintro e w4 ⟨rfl, z4⟩))
  go_ret
  exact ⟨rfl, z4⟩
end Go.Proofs.Ytljeedgnjgeopaa
