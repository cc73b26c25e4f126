/- record: the law's EqLists, sameEntry, sameEntries: of lists that hold the same. -/
import Derived.Test.YtljeedgnjgeopaaZa
namespace Go.Proofs.Ytljeedgnjgeopaa
open Go.ChangeShapes Go.WideShapes Go.ChangeAt Go.RowKit Go.Shelf
set_option linter.unusedVariables false
set_option linter.unusedSimpArgs false
set_option maxRecDepth 100000
set_option maxHeartbeats 4000000
theorem cmpL_self : ∀ l : List Nat, cmpL l l = 0
  | [] => rfl
  | a :: l => by rw [cmpL, if_neg (Nat.lt_irrefl _), if_neg (Nat.lt_irrefl _), cmpL_self l]
theorem eqlists_any (w : World) (a b : Option Addr) (n c1 c2 : Nat) (l : List (List Nat)) (hn : n = l.length) (hA : BL w a l) (hB : BL w b l) (hn2 : n ≤ 140737488355328) (hl : ∀ T ∈ l, T.length ≤ 140737488355328) :
    Calls Try.prog 36 #[.slice a n c1, .slice b n c2] w fun e w' => e = .returned (.bool true) ∧ Hid (Below w.heap.size w w') := by
  have HA := hide hA
  have HB := hide hB
  have HN := hide hn
  have HL := hide hl
  clear hA hB hn hl
  go_enter Try.func36, Try.ntmps36
  go_wp2_with fail
  go_loopw [5] (fun iv wr => ∃ i : Nat, iv = .int .i64 ((i : Nat) : Int) ∧ i ≤ n ∧ Hid (Below w.heap.size w wr)) (fun iv _ => n - (intOf iv).toNat)
  case atStart => exact ⟨0, rfl, Nat.zero_le _, hide (Below.refl _ _)⟩
  case round =>
    obtain ⟨i, rfl, hi, HW⟩ := hrel
    by_cases hin : i < n
    · have f1 : decide ((i : Int) < (n : Int)) = true := decide_eq_true (by omega)
      have f3 : decide (i < n) = true := decide_eq_true hin
      have g1 : (0 : Int) ≤ (i : Int) := by omega
      have g2 : (i : Int) < (n : Int) := by omega
      obtain ⟨T, hT⟩ : ∃ T, l[i]? = some T := ⟨_, List.getElem?_eq_getElem (by have := unhide HN; omega)⟩
      obtain ⟨ga, oa, rfl, ai, ci, k1, k2⟩ : ∃ ga oa, a = some ⟨ga, oa, none⟩ ∧ ∃ ai ci, wr.cell? ⟨ga, oa + i, none⟩ = some (.slice ai T.length ci) ∧ Bytes wr ai T := by
        rcases unhide HA with h | ⟨ga, oa, e, hl, hc⟩
        · rw [h] at hT; cases hT
        · obtain ⟨ai, ci, q1, q2⟩ := hc i T hT
          exact ⟨ga, oa, e, ai, ci, ((unhide HW).cell (p := ⟨ga, oa + i, none⟩) hl).trans q1, q2.below' (unhide HW)⟩
      obtain ⟨gb, ob, rfl, bi, di, k3, k4⟩ : ∃ gb ob, b = some ⟨gb, ob, none⟩ ∧ ∃ ai ci, wr.cell? ⟨gb, ob + i, none⟩ = some (.slice ai T.length ci) ∧ Bytes wr ai T := by
        rcases unhide HB with h | ⟨ga, oa, e, hl, hc⟩
        · rw [h] at hT; cases hT
        · obtain ⟨ai, ci, q1, q2⟩ := hc i T hT
          exact ⟨ga, oa, e, ai, ci, ((unhide HW).cell (p := ⟨ga, oa + i, none⟩) hl).trans q1, q2.below' (unhide HW)⟩
      have hTl := (unhide HL) T (List.mem_of_getElem? hT)
      have C37 := dcmp_any wr.drew ai bi T.length T.length ci di T T k2 k4 rfl rfl hTl hTl
      rw [cmpL_self] at C37
      have HD := hide (below_drew (unhide HW))
      generalize T.length = t at k1 k3 C37
      have hga : ga < wr.heap.size := by have := block_lt_of_cell k1; simpa using this
      have hgb : gb < wr.heap.size := by have := block_lt_of_cell k3; simpa using this
      have C37' : Calls Try.prog 37 #[.slice ai t ci, .slice bi t di] wr.drew fun e w3 => e = .returned (.int .i64 0) ∧ w3.cell? ⟨ga, oa + i, none⟩ = some (.slice ai t ci) ∧ w3.cell? ⟨gb, ob + i, none⟩ = some (.slice bi t di) ∧ Hid (Below wr.drew.heap.size wr.drew w3) := C37.mono fun e w3 h => ⟨h.1, ((unhide h.2).cell (p := ⟨ga, oa + i, none⟩) hga).trans k1, ((unhide h.2).cell (p := ⟨gb, ob + i, none⟩) hgb).trans k3, h.2⟩
      clear hT k2 k4 hTl C37
      go_wp2_with fail
      go_region_held3 (fun W => W.cell? ⟨ga, oa + i, none⟩ = some (.slice ai t ci) ∧ W.cell? ⟨gb, ob + i, none⟩ = some (.slice bi t di)) (go_keep) (first | (go_at_call 37; refine C37'.mono ?_; clear C37'; rintro e w3 ⟨rfl, z1, z2, H3⟩))
      all_goals go_wp2_with fail
      all_goals exact ⟨⟨i + 1, congrArg (Value.int .i64) (by omega), by omega, hide ((unhide HD).trans ((unhide H3).mono (unhide HD).size))⟩, by simp [intOf]; omega⟩
    · obtain rfl : n = i := by omega
      have f1 : decide ((n : Int) < (n : Int)) = false := decide_eq_false (by omega)
      have f9 : decide (n < n) = false := decide_eq_false (by omega)
      go_wp2_with fail
      go_ret
      exact ⟨rfl, HW⟩
/-- the bounds of what comes in -/
def BdA (g : List Larder.ActP) : Prop := g.length ≤ 140737488355328 ∧ ∀ a ∈ g, a.2.length ≤ 140737488355328 ∧ ∀ T ∈ a.2, T.length ≤ 140737488355328
theorem same_entry (w : World) (sq nw : Nat) (a b : Option Addr) (n c1 c2 : Nat) (g : List Larder.ActP) (hn : n = g.length) (hA : GrpAt w a g) (hB : GrpAt w b g) (hb : BdA g) :
    Calls Try.prog 18 #[.agg #[.int .i64 (sq : Nat), .int .u64 (nw : Nat), .slice a n c1], .agg #[.int .i64 (sq : Nat), .int .u64 (nw : Nat), .slice b n c2]] w fun e w' => e = .returned (.bool true) ∧ Hid (Below w.heap.size w w') := by
  obtain ⟨w0, hw0⟩ : ∃ w0, (w.alloc (.cells #[.int .i64 (sq : Nat), .int .u64 (nw : Nat), .slice a n c1] 41)).alloc (.cells #[.int .i64 (sq : Nat), .int .u64 (nw : Nat), .slice b n c2] 41) = w0 := ⟨_, rfl⟩
  have b1 := (Below.refl w.heap.size w).alloc (Nat.le_refl _) (.cells #[.int .i64 (sq : Nat), .int .u64 (nw : Nat), .slice a n c1] 41)
  have b2 := (Below.refl _ (w.alloc (.cells #[.int .i64 (sq : Nat), .int .u64 (nw : Nat), .slice a n c1] 41))).alloc (Nat.le_refl _) (.cells #[.int .i64 (sq : Nat), .int .u64 (nw : Nat), .slice b n c2] 41)
  have s1 : (w.alloc (.cells #[.int .i64 (sq : Nat), .int .u64 (nw : Nat), .slice a n c1] 41)).heap.size = w.heap.size + 1 := by simp
  have h1 := heap_alloc_new w (.cells #[.int .i64 (sq : Nat), .int .u64 (nw : Nat), .slice a n c1] 41)
  have h2 := heap_alloc_new (w.alloc (.cells #[.int .i64 (sq : Nat), .int .u64 (nw : Nat), .slice a n c1] 41)) (.cells #[.int .i64 (sq : Nat), .int .u64 (nw : Nat), .slice b n c2] 41)
  have b12 := b1.trans (b2.mono (by omega))
  have h1' := (b2.block _ (by omega)).trans h1
  rw [hw0] at b2 b12 h2 h1'
  rw [s1] at h2
  have hs0 : w0.heap.size = w.heap.size + 2 := by rw [← hw0]; simp
  have HA := hide hA
  have HB := hide hB
  have HN := hide hn
  have hn2 : n ≤ 140737488355328 := by rw [hn]; exact hb.1
  have HBD := hide hb
  have H1 := hide h1'
  have H2 := hide h2
  have HB0 := hide b12
  have x0 := cell_blk h1' 0
  have x1 := cell_blk h1' 1
  have x2 := cell_blk h1' 2
  have y0 := cell_blk h2 0
  have y1 := cell_blk h2 1
  have y2 := cell_blk h2 2
  clear hA hB hn hb b1 b2 b12 h1 h2 h1' s1
  go_enter Try.func18, Try.ntmps18
  go_wp2_with fail
  go_loopw [5] (fun iv wr => ∃ i : Nat, iv = .int .i64 ((i : Nat) : Int) ∧ i ≤ n ∧ Hid (Below w0.heap.size w0 wr)) (fun iv _ => n - (intOf iv).toNat)
  case atStart => exact ⟨0, rfl, Nat.zero_le _, hide (Below.refl _ _)⟩
  case round =>
    obtain ⟨i, rfl, hi, HW⟩ := hrel
    have hW := unhide HW
    replace x2 := cell_blk ((hW.block _ (by omega)).trans (unhide H1)) 2
    replace y2 := cell_blk ((hW.block _ (by omega)).trans (unhide H2)) 2
    clear x0 x1 y0 y1
    by_cases hin : i < n
    · have f1 : decide ((i : Int) < (n : Int)) = true := decide_eq_true (by omega)
      have f3 : decide (i < n) = true := decide_eq_true hin
      have g1 : (0 : Int) ≤ (i : Int) := by omega
      have g2 : (i : Int) < (n : Int) := by omega
      obtain ⟨x, hx⟩ : ∃ x, g[i]? = some x := ⟨_, List.getElem?_eq_getElem (by have := unhide HN; omega)⟩
      obtain ⟨ga, oa, rfl, hla, k1, xa, xc, k2, k3⟩ : ∃ ga oa, a = some ⟨ga, oa, none⟩ ∧ ga < w.heap.size ∧ wr.cell? ⟨ga, oa + i * 2, none⟩ = some (.int .i64 (x.1 : Nat)) ∧ ∃ xa xc, wr.cell? ⟨ga, oa + i * 2 + 1, none⟩ = some (.slice xa x.2.length xc) ∧ BL wr xa x.2 := by
        rcases unhide HA with h | ⟨ga, oa, e, hl, hc⟩
        · rw [h] at hx; cases hx
        · obtain ⟨q1, ai, ci, q2, q3⟩ := hc i x hx
          have hb2 := (unhide HB0).trans (hW.mono (by omega))
          exact ⟨ga, oa, e, hl, (hb2.cell (p := ⟨ga, _, none⟩) hl).trans q1, ai, ci, (hb2.cell (p := ⟨ga, _, none⟩) hl).trans q2, q3.below hb2⟩
      obtain ⟨gb, ob, rfl, hlb, k4, ya, yc, k5, k6⟩ : ∃ ga oa, b = some ⟨ga, oa, none⟩ ∧ ga < w.heap.size ∧ wr.cell? ⟨ga, oa + i * 2, none⟩ = some (.int .i64 (x.1 : Nat)) ∧ ∃ xa xc, wr.cell? ⟨ga, oa + i * 2 + 1, none⟩ = some (.slice xa x.2.length xc) ∧ BL wr xa x.2 := by
        rcases unhide HB with h | ⟨ga, oa, e, hl, hc⟩
        · rw [h] at hx; cases hx
        · obtain ⟨q1, ai, ci, q2, q3⟩ := hc i x hx
          have hb2 := (unhide HB0).trans (hW.mono (by omega))
          exact ⟨ga, oa, e, hl, (hb2.cell (p := ⟨ga, _, none⟩) hl).trans q1, ai, ci, (hb2.cell (p := ⟨ga, _, none⟩) hl).trans q2, q3.below hb2⟩
      have hbx := (unhide HBD).2 x (List.mem_of_getElem? hx)
      have C36 := eqlists_any wr.drew xa ya x.2.length xc yc x.2 rfl k3 k6 hbx.1 hbx.2
      have HD := hide (below_drew hW)
      have hsr := hW.size
      generalize x.2.length = t at k2 k5 C36
      generalize x.1 = d at k1 k4
      have C36' : Calls Try.prog 36 #[.slice xa t xc, .slice ya t yc] wr.drew fun e w3 => e = .returned (.bool true) ∧ w3.cell? ⟨ga, oa + i * 2, none⟩ = some (.int .i64 (d : Nat)) ∧ w3.cell? ⟨ga, oa + i * 2 + 1, none⟩ = some (.slice xa t xc) ∧ w3.cell? ⟨gb, ob + i * 2, none⟩ = some (.int .i64 (d : Nat)) ∧ w3.cell? ⟨gb, ob + i * 2 + 1, none⟩ = some (.slice ya t yc) ∧ w3.cell? ⟨w.heap.size, 2, none⟩ = some (.slice (some ⟨ga, oa, none⟩) n c1) ∧ w3.cell? ⟨w.heap.size + 1, 2, none⟩ = some (.slice (some ⟨gb, ob, none⟩) n c2) ∧ Hid (Below wr.drew.heap.size wr.drew w3) := C36.mono fun e w3 h => by
        have hb := unhide h.2
        have e1 : ga < wr.drew.heap.size := by show ga < wr.heap.size; omega
        have e2 : gb < wr.drew.heap.size := by show gb < wr.heap.size; omega
        have e3 : w.heap.size < wr.drew.heap.size := by show _ < wr.heap.size; omega
        have e4 : w.heap.size + 1 < wr.drew.heap.size := by show _ < wr.heap.size; omega
        exact ⟨h.1, (hb.cell (p := ⟨ga, _, none⟩) e1).trans k1, (hb.cell (p := ⟨ga, _, none⟩) e1).trans k2, (hb.cell (p := ⟨gb, _, none⟩) e2).trans k4, (hb.cell (p := ⟨gb, _, none⟩) e2).trans k5, (hb.cell (p := ⟨w.heap.size, _, none⟩) e3).trans x2, (hb.cell (p := ⟨w.heap.size + 1, _, none⟩) e4).trans y2, h.2⟩
      have f5 : (d != d) = false := by simp
      clear hx k3 k6 hbx C36 hla hlb hsr HA HB HBD H1 H2 hW HW hs0
      go_wp2_with fail
      go_region_held3 (fun W => W.cell? ⟨ga, oa + i * 2, none⟩ = some (.int .i64 (d : Nat)) ∧ W.cell? ⟨ga, oa + i * 2 + 1, none⟩ = some (.slice xa t xc) ∧ W.cell? ⟨gb, ob + i * 2, none⟩ = some (.int .i64 (d : Nat)) ∧ W.cell? ⟨gb, ob + i * 2 + 1, none⟩ = some (.slice ya t yc) ∧ W.cell? ⟨w.heap.size, 2, none⟩ = some (.slice (some ⟨ga, oa, none⟩) n c1) ∧ W.cell? ⟨w.heap.size + 1, 2, none⟩ = some (.slice (some ⟨gb, ob, none⟩) n c2)) (go_keep) (first | (go_at_call 36; refine C36'.mono ?_; clear C36'; rintro e w3 ⟨rfl, z1, z2, z3, z4, z5, z6, H3⟩))
      all_goals go_wp2_with fail
      all_goals exact ⟨⟨i + 1, congrArg (Value.int .i64) (by omega), by omega, hide ((unhide HD).trans ((unhide H3).mono (unhide HD).size))⟩, by simp [intOf]; omega⟩
    · obtain rfl : n = i := by omega
      have f1 : decide ((n : Int) < (n : Int)) = false := decide_eq_false (by omega)
      have f9 : decide (n < n) = false := decide_eq_false (by omega)
      go_wp2_with fail
      go_ret
      exact ⟨rfl, hide ((unhide HB0).trans (hW.mono (by omega)))⟩
/-- entries in memory -/
def EB (w : World) (a : Option Addr) (es : List Larder.EntP) : Prop := es = [] ∨ ∃ b off, a = some ⟨b, off, none⟩ ∧ b < w.heap.size ∧ ∀ i x, es[i]? = some x → w.cell? ⟨b, off + i * 3, none⟩ = some (.int .i64 (x.seq : Nat)) ∧ w.cell? ⟨b, off + i * 3 + 1, none⟩ = some (.int .u64 (x.now : Nat)) ∧ ∃ xa xc, w.cell? ⟨b, off + i * 3 + 2, none⟩ = some (.slice xa x.group.length xc) ∧ GrpAt w xa x.group
theorem GrpAt.below2 {w w' : World} {a : Option Addr} {g : List Larder.ActP} (h : GrpAt w a g) (hb : Below w.heap.size w w') : GrpAt w' a g := by
  rcases h with h | ⟨b, off, e, hl, hc⟩
  · exact .inl h
  · refine .inr ⟨b, off, e, Nat.lt_of_lt_of_le hl hb.size, fun i x hi => ?_⟩
    obtain ⟨q1, xa, xc, q2, q3⟩ := hc i x hi
    exact ⟨(hb.cell (p := ⟨b, _, none⟩) hl).trans q1, xa, xc, (hb.cell (p := ⟨b, _, none⟩) hl).trans q2, q3.below hb⟩
theorem EB.below {w w' : World} {a : Option Addr} {es : List Larder.EntP} (h : EB w a es) (hb : Below w.heap.size w w') : EB w' a es := by
  rcases h with h | ⟨b, off, e, hl, hc⟩
  · exact .inl h
  · refine .inr ⟨b, off, e, Nat.lt_of_lt_of_le hl hb.size, fun i x hi => ?_⟩
    obtain ⟨q1, q2, xa, xc, q3, q4⟩ := hc i x hi
    exact ⟨(hb.cell (p := ⟨b, _, none⟩) hl).trans q1, (hb.cell (p := ⟨b, _, none⟩) hl).trans q2, xa, xc, (hb.cell (p := ⟨b, _, none⟩) hl).trans q3, q4.below2 hb⟩
theorem EL.eb {w : World} {a : Option Addr} {n c : Nat} {es : List Larder.EntP} (h : EL w (.slice a n c) es) : EB w a es := by
  obtain ⟨f, h1, h2⟩ := h
  rcases h1 with ⟨e, e0⟩ | ⟨g, cap, cur, e, hg, q1, q2, q3, q4⟩
  · exact .inl (List.length_eq_zero_iff.1 e0)
  · cases e
    refine .inr ⟨g, 0, rfl, blk_lt hg, fun i x hx => ?_⟩
    obtain ⟨ai, ci, z1, z2, z3, z4⟩ := h2 i x hx
    have hi : i < es.length := (List.getElem?_eq_some_iff.1 hx).1
    refine ⟨?_, ?_, ai, ci, ?_, z4.grp⟩
    · rw [cell_blk hg, Nat.zero_add, q4 (i * 3) (by omega), z1]
    · rw [cell_blk hg, Nat.zero_add, q4 (i * 3 + 1) (by omega), z2]
    · rw [cell_blk hg, Nat.zero_add, q4 (i * 3 + 2) (by omega), z3]
theorem EB.take {w : World} {a : Option Addr} {es : List Larder.EntP} (h : EB w a es) (k : Nat) : EB w a (es.take k) := by
  rcases h with h | ⟨b, off, e, hl, hc⟩
  · exact .inl (by rw [h, List.take_nil])
  · refine .inr ⟨b, off, e, hl, fun i x hi => hc i x ?_⟩
    rw [List.getElem?_take] at hi
    split at hi
    · exact hi
    · cases hi
theorem same_entries (w : World) (a b : Option Addr) (n c1 c2 : Nat) (es : List Larder.EntP) (hn : n = es.length) (hA : EB w a es) (hB : EB w b es) (hn2 : n ≤ 1099511627776) (hb : ∀ e ∈ es, BdA e.group) :
    Calls Try.prog 28 #[.slice a n c1, .slice b n c2] w fun e w' => e = .returned (.bool true) ∧ Hid (Below w.heap.size w w') := by
  have HA := hide hA
  have HB := hide hB
  have HN := hide hn
  have HBD := hide hb
  clear hA hB hn hb
  go_enter Try.func28, Try.ntmps28
  go_wp2_with fail
  go_loopw [5] (fun iv wr => ∃ i : Nat, iv = .int .i64 ((i : Nat) : Int) ∧ i ≤ n ∧ Hid (Below w.heap.size w wr)) (fun iv _ => n - (intOf iv).toNat)
  case atStart => exact ⟨0, rfl, Nat.zero_le _, hide (Below.refl _ _)⟩
  case round =>
    obtain ⟨i, rfl, hi, HW⟩ := hrel
    have hW := unhide HW
    by_cases hin : i < n
    · have f1 : decide ((i : Int) < (n : Int)) = true := decide_eq_true (by omega)
      have f3 : decide (i < n) = true := decide_eq_true hin
      have g1 : (0 : Int) ≤ (i : Int) := by omega
      have g2 : (i : Int) < (n : Int) := by omega
      obtain ⟨x, hx⟩ : ∃ x, es[i]? = some x := ⟨_, List.getElem?_eq_getElem (by have := unhide HN; omega)⟩
      obtain ⟨ga, oa, rfl, hla, k0, k1, xa, xc, k2, k3⟩ : ∃ ga oa, a = some ⟨ga, oa, none⟩ ∧ ga < wr.heap.size ∧ wr.cell? ⟨ga, oa + i * 3, none⟩ = some (.int .i64 (x.seq : Nat)) ∧ wr.cell? ⟨ga, oa + i * 3 + 1, none⟩ = some (.int .u64 (x.now : Nat)) ∧ ∃ xa xc, wr.cell? ⟨ga, oa + i * 3 + 2, none⟩ = some (.slice xa x.group.length xc) ∧ GrpAt wr xa x.group := by
        rcases (unhide HA).below hW with h | ⟨ga, oa, e, hl, hc⟩
        · rw [h] at hx; cases hx
        · obtain ⟨q0, q1, ai, ci, q2, q3⟩ := hc i x hx
          exact ⟨ga, oa, e, hl, q0, q1, ai, ci, q2, q3⟩
      obtain ⟨gb, ob, rfl, hlb, m0, m1, ya, yc, m2, m3⟩ : ∃ ga oa, b = some ⟨ga, oa, none⟩ ∧ ga < wr.heap.size ∧ wr.cell? ⟨ga, oa + i * 3, none⟩ = some (.int .i64 (x.seq : Nat)) ∧ wr.cell? ⟨ga, oa + i * 3 + 1, none⟩ = some (.int .u64 (x.now : Nat)) ∧ ∃ xa xc, wr.cell? ⟨ga, oa + i * 3 + 2, none⟩ = some (.slice xa x.group.length xc) ∧ GrpAt wr xa x.group := by
        rcases (unhide HB).below hW with h | ⟨ga, oa, e, hl, hc⟩
        · rw [h] at hx; cases hx
        · obtain ⟨q0, q1, ai, ci, q2, q3⟩ := hc i x hx
          exact ⟨ga, oa, e, hl, q0, q1, ai, ci, q2, q3⟩
      have C18 := same_entry wr.drew x.seq x.now xa ya x.group.length xc yc x.group rfl k3 m3 ((unhide HBD) x (List.mem_of_getElem? hx))
      have HD := hide (below_drew hW)
      generalize x.seq = sq at k0 m0 C18
      generalize x.now = nw at k1 m1 C18
      generalize x.group.length = t at k2 m2 C18
      have C18' : Calls Try.prog 18 #[.agg #[.int .i64 (sq : Nat), .int .u64 (nw : Nat), .slice xa t xc], .agg #[.int .i64 (sq : Nat), .int .u64 (nw : Nat), .slice ya t yc]] wr.drew fun e w3 => e = .returned (.bool true) ∧ w3.cell? ⟨ga, oa + i * 3, none⟩ = some (.int .i64 (sq : Nat)) ∧ w3.cell? ⟨ga, oa + i * 3 + 1, none⟩ = some (.int .u64 (nw : Nat)) ∧ w3.cell? ⟨ga, oa + i * 3 + 2, none⟩ = some (.slice xa t xc) ∧ w3.cell? ⟨gb, ob + i * 3, none⟩ = some (.int .i64 (sq : Nat)) ∧ w3.cell? ⟨gb, ob + i * 3 + 1, none⟩ = some (.int .u64 (nw : Nat)) ∧ w3.cell? ⟨gb, ob + i * 3 + 2, none⟩ = some (.slice ya t yc) ∧ Hid (Below wr.drew.heap.size wr.drew w3) := C18.mono fun e w3 h => by
        have hb := unhide h.2
        exact ⟨h.1, (hb.cell (p := ⟨ga, _, none⟩) hla).trans k0, (hb.cell (p := ⟨ga, _, none⟩) hla).trans k1, (hb.cell (p := ⟨ga, _, none⟩) hla).trans k2, (hb.cell (p := ⟨gb, _, none⟩) hlb).trans m0, (hb.cell (p := ⟨gb, _, none⟩) hlb).trans m1, (hb.cell (p := ⟨gb, _, none⟩) hlb).trans m2, h.2⟩
      clear hx k3 m3 C18 hla hlb HA HB HBD hW HW
      go_wp2_with fail
      go_region_held3 (fun W => W.cell? ⟨ga, oa + i * 3, none⟩ = some (.int .i64 (sq : Nat)) ∧ W.cell? ⟨ga, oa + i * 3 + 1, none⟩ = some (.int .u64 (nw : Nat)) ∧ W.cell? ⟨ga, oa + i * 3 + 2, none⟩ = some (.slice xa t xc) ∧ W.cell? ⟨gb, ob + i * 3, none⟩ = some (.int .i64 (sq : Nat)) ∧ W.cell? ⟨gb, ob + i * 3 + 1, none⟩ = some (.int .u64 (nw : Nat)) ∧ W.cell? ⟨gb, ob + i * 3 + 2, none⟩ = some (.slice ya t yc)) (go_keep) (first | (go_at_call 18; refine C18'.mono ?_; clear C18'; rintro e w3 ⟨rfl, z1, z2, z3, z4, z5, z6, H3⟩))
      all_goals go_wp2_with fail
      all_goals exact ⟨⟨i + 1, congrArg (Value.int .i64) (by omega), by omega, hide ((unhide HD).trans ((unhide H3).mono (unhide HD).size))⟩, by simp [intOf]; omega⟩
    · obtain rfl : n = i := by omega
      have f1 : decide ((n : Int) < (n : Int)) = false := decide_eq_false (by omega)
      have f9 : decide (n < n) = false := decide_eq_false (by omega)
      go_wp2_with fail
      go_ret
      exact ⟨rfl, HW⟩
end Go.Proofs.Ytljeedgnjgeopaa
