/- record: the law's Copy, Copies, Cmp. -/
import Derived.Test.YtljeedgnjgeopaaYs
import Derived.Laws.CopyOwn
namespace Go.Proofs.Ytljeedgnjgeopaa
open Go.ChangeShapes Go.WideShapes Go.ChangeAt Go.RowKit Go.Shelf
set_option linter.unusedVariables false
set_option linter.unusedSimpArgs false
set_option maxRecDepth 100000
set_option maxHeartbeats 8000000
theorem below_drew {N : Nat} {w W : World} (h : Below N w W) : Below N w W.drew := ⟨h.os, h.tape, h.output, h.size, h.block⟩
theorem dinfo5 : (Try.prog.info? 5).map (fun i => (i.zero, i.size, i.bytes)) = some (some (.int .u8 0), 1, 1) := by kernel_rfl
theorem RB.of {w : World} {g n : Nat} {cur : Array Value} {l : List Nat} (h : w.heap[g]? = some (.cells cur 5 (0, 0))) (hn : n = l.length) (hm : n ≤ maxLen) (hc : cur.size = n) (hv : ∀ j, j < n → cur[j]? = some (.int .u8 (l.getD j 0 : Nat))) : RB w (.slice (some ⟨g, 0, none⟩) n n) l := by
  subst hn
  exact .inr ⟨g, _, cur, rfl, h, Nat.le_refl _, hm, by omega, fun k hk => hv k (by omega)⟩
theorem copy0_any {w : World} {x : Addr} {cap : Nat} (l : List Nat) (hl : l.length ≤ 140737488355328) (hB : Bytes w (some x) l) :
    Calls Try.prog 11 #[.slice (some x) l.length cap] w fun e w' => e = .returned (.slice (some ⟨w.heap.size, 0, none⟩) l.length l.length) ∧ RB w' (.slice (some ⟨w.heap.size, 0, none⟩) l.length l.length) l ∧ Below w.heap.size w w' := by
  obtain ⟨n, hn⟩ : ∃ n, n = l.length := ⟨_, rfl⟩
  have m1 := fun w' => run_make_row' (P := Try.prog) 27 5 (.int .u8 0) 1 Try.underlying27 dinfo5 rfl .i64 .i64 n (by omega) (by omega) w'
  have HB := hide ((Below.refl w.heap.size w).alloc (Nat.le_refl _) (.cells (madeCells #[.int .u8 0] n) 5))
  have HG := hide (heap_alloc_new w (.cells (madeCells #[.int .u8 0] n) 5))
  have HW : Hid (∀ j v, ((List.range n).map fun k => Value.int .u8 (l.getD k 0 : Nat))[j]? = some v → (w.alloc (.cells (madeCells #[.int .u8 0] n) 5)).cell? (x.add j) = some v) := hide (fun j v hj => by
    have hjl : j < n := by
      have := (List.getElem?_eq_some_iff.1 hj).1
      simpa using this
    rw [List.getElem?_map, List.getElem?_range hjl] at hj
    rcases hB with h | ⟨b, off, h, hb, hc⟩
    · subst h; simp at hn; omega
    · cases h
      have e : (⟨b, off, none⟩ : Addr).add j = ⟨b, off + j, none⟩ := by unfold Addr.add; split <;> simp_all
      rw [e, (unhide HB).cell (p := ⟨b, off + j, none⟩) hb, hc j (by omega)]
      exact hj)
  obtain ⟨i0, hi, hy0, hy1, hy2⟩ := info_parts4 dinfo5
  have hcopy : ∃ w2, (Builtin.copy_ #[27, 27] 3 #[.slice (some ⟨w.heap.size, 0, none⟩) n n, .slice (some x) n cap]).run Try.prog (w.alloc (.cells (madeCells #[.int .u8 0] n) 5)) = .ok (goInt n) w2 ∧ Hid (RB w2 (.slice (some ⟨w.heap.size, 0, none⟩) n n) l) ∧ Below w.heap.size w w2 ∧ w2.heap.size = w.heap.size + 1 := by
    obtain ⟨cs, hcs⟩ : ∃ cs, cs = (List.range n).map fun k => Value.int .u8 (l.getD k 0 : Nat) := ⟨_, rfl⟩
    have hlen : cs.length = n := by rw [hcs]; simp
    rw [← hcs] at HW
    have hcp := run_copy_row (P := Try.prog) (w.alloc (.cells (madeCells #[.int .u8 0] n) 5)) 27 27 3 5 w.heap.size 0 n n x n cap (madeCells #[.int .u8 0] n) 5 cs Try.underlying27 (by rw [hi]; simp [hy1]) (unhide HG) (by rw [hlen]; show n = min _ _; omega) (unhide HW) (by rw [hlen]; simp [madeCells]) (fun v hv => by rw [hcs] at hv; obtain ⟨k, _, rfl⟩ := List.mem_map.1 hv; rfl)
    rw [hlen] at hcp
    refine ⟨_, hcp, hide ?_, below_setRow (unhide HB) (Nat.le_refl _) _, by simp [World.setRow]⟩
    have hrow := setRow_heap (w.alloc (.cells (madeCells #[.int .u8 0] n) 5)) w.heap.size _ ((madeCells #[.int .u8 0] n).toList.take 0 ++ cs ++ (madeCells #[.int .u8 0] n).toList.drop (0 + n)).toArray 5 (0, 0) (unhide HG)
    refine RB.of hrow hn (by unfold maxLen; omega) ?_ (fun j hj => ?_)
    · simp [hlen, madeCells]
    · rw [List.take_zero, List.nil_append]
      simp [List.getElem?_append, hj, hcs]
  obtain ⟨w2, hcp, HR, hbr, hsz⟩ := hcopy
  clear hB
  rw [← hn]
  have HN := hide hn
  clear hn hl
  go_enter Try.func11, Try.ntmps11
  go_wp2
  go_ret
  exact ⟨rfl, unhide HR, hbr⟩

theorem dcopy_any (w : World) (a : Option Addr) (cap : Nat) (l : List Nat) (hl : l.length ≤ 140737488355328) (hB : Bytes w a l) :
    Calls Try.prog 11 #[.slice a l.length cap] w fun e w' => e = .returned (.slice (some ⟨w.heap.size, 0, none⟩) l.length l.length) ∧ Hid (RB w' (.slice (some ⟨w.heap.size, 0, none⟩) l.length l.length) l ∧ Below w.heap.size w w') := by
  cases a with
  | some x =>
    refine (copy0_any (cap := cap) l hl hB).mono ?_
    rintro e w' ⟨rfl, h1, h2⟩
    exact ⟨rfl, hide ⟨h1, h2⟩⟩
  | none =>
    have hl0 : l = [] := by
      rcases hB with h | ⟨b, off, h, _⟩
      · exact h
      · cases h
    subst hl0
    have m1 : ∀ w' : World, (Instr.makeSlice 27 (.int .i64 0) (.int .i64 0)).run Try.prog w' = .ok (.slice (some ⟨w'.heap.size, 0, none⟩) 0 0) (w'.alloc (.cells (madeCells #[.int .u8 0] 0) 5)) := fun w' => run_make_row' (P := Try.prog) 27 5 (.int .u8 0) 1 Try.underlying27 dinfo5 rfl .i64 .i64 0 (by omega) (by omega) w'
    have HB := hide ((Below.refl w.heap.size w).alloc (Nat.le_refl _) (.cells (madeCells #[.int .u8 0] 0) 5))
    have HG := hide (heap_alloc_new w (.cells (madeCells #[.int .u8 0] 0) 5))
    obtain ⟨i0, hi, hy0, hy1, hy2⟩ := info_parts4 dinfo5
    have m2 : ∀ (g : Nat) (w' : World), (Builtin.copy_ #[27, 27] 3 #[.slice (some ⟨g, 0, none⟩) 0 0, .slice none 0 cap]).run Try.prog w' = .ok (.int .i64 0) w' := fun g w' => by
      simp [Builtin.copy_, run_underlying Try.underlying27, sizeOf, typeInfo, hi, Builtin.lenOf, Builtin.firstCells, storeCells, loadCells, loadCellsFrom, goInt]
    clear hB
    go_enter Try.func11, Try.ntmps11
    go_wp2
    go_ret
    exact ⟨rfl, hide ⟨RB.of (unhide HG) rfl (by unfold maxLen; omega) (by simp [madeCells]) (fun j hj => absurd hj (Nat.not_lt_zero _)), unhide HB⟩⟩
/-- copies under way -/
structure CpAt (w W : World) (n i : Nat) (l : List (List Nat)) : Prop where
  bel : Below w.heap.size w W
  row : ∃ cur, W.heap[w.heap.size]? = some (.cells cur 27 (0, 0)) ∧ cur.size = n ∧ ∀ j T, j < i → l[j]? = some T → ∃ aj cj, cur[j]? = some (.slice aj T.length cj) ∧ RB W (.slice aj T.length cj) T
theorem CpAt.store {w W W' : World} {n i : Nat} {l : List (List Nat)} (h : CpAt w W n i l) (hi : i < n) {T : List Nat} (hT : l[i]? = some T) (hb : Below W.heap.size W W') {v : Option Addr} {c : Nat} (hB : RB W' (.slice v T.length c) T) : CpAt w (W'.setCell ⟨w.heap.size, i, none⟩ (.slice v T.length c)) n (i + 1) l := by
  obtain ⟨cur, k1, k2, k3⟩ := h.row
  have hlt := blk_lt k1
  have k1' : W'.heap[w.heap.size]? = some (.cells cur 27 (0, 0)) := (hb.block _ hlt).trans k1
  have hs := set_block W' w.heap.size i (.slice v T.length c) cur 27 (0, 0) k1'
  have hkt : Kt (fun t => t ≠ 27) W' (W'.setCell ⟨w.heap.size, i, none⟩ (.slice v T.length c)) := fun b C t f hb' ht => set_else _ _ _ _ _ (fun e => by
    rw [e, k1'] at hb'
    cases hb'
    exact ht rfl)
  have hbel := h.bel.trans (hb.mono h.bel.size)
  refine ⟨⟨hbel.os, hbel.tape, hbel.output, by simpa using hbel.size, fun b hb' => (set_else _ _ _ _ _ (by omega)).trans (hbel.block b hb')⟩, _, hs, by simpa using k2, fun j U hj hU => ?_⟩
  by_cases z : j < i
  · obtain ⟨aj, cj, q1, q2⟩ := k3 j U z hU
    refine ⟨aj, cj, ?_, (q2.below hb).kt hkt (by decide)⟩
    rw [← q1]
    simp [Array.getElem?_setIfInBounds]
    omega
  · obtain rfl : j = i := by omega
    rw [hT] at hU
    cases hU
    refine ⟨v, c, ?_, Rws.kt hB hkt (by decide)⟩
    simp [Array.getElem?_setIfInBounds]
    omega
/-- the document's Copies -/
theorem dcopies_any (w : World) (a : Option Addr) (cap : Nat) (l : List (List Nat)) (hn : l.length * 24 ≤ 140737488355328) (hl : ∀ T ∈ l, T.length ≤ 140737488355328) (hB : BL w a l) :
    Calls Try.prog 40 #[.slice a l.length cap] w fun e w' => e = .returned (.slice (some ⟨w.heap.size, 0, none⟩) l.length l.length) ∧ Hid (TL w' (.slice (some ⟨w.heap.size, 0, none⟩) l.length l.length) l ∧ Below w.heap.size w w') := by
  obtain ⟨n, hnn⟩ : ∃ n, n = l.length := ⟨_, rfl⟩
  have m1 := fun w' => run_make_row' (P := Try.prog) 42 27 (.slice none 0 0) 24 Try.underlying42 info27 rfl .i64 .i64 n (by omega) (by omega) w'
  obtain ⟨w0, hw0⟩ : ∃ w0, w.alloc (.cells (madeCells #[.slice none 0 0] n) 27) = w0 := ⟨_, rfl⟩
  have H0 : Hid (CpAt w w0 n 0 l) := by
    rw [← hw0]
    exact hide ⟨(Below.refl _ _).alloc (Nat.le_refl _) _, _, heap_alloc_new _ _, by simp [madeCells], fun j T hj => by omega⟩
  have HB := hide hB
  have HN := hide hnn
  have HL := hide hl
  rw [← hnn]
  have hn5 : n * 24 ≤ 140737488355328 := by omega
  clear hB hnn hl hn
  go_enter Try.func40, Try.ntmps40
  go_wp2_with fail
  go_loopw [4] (fun iv wr => ∃ i : Nat, iv = .int .i64 ((i : Nat) : Int) ∧ i ≤ n ∧ Hid (CpAt w wr n i l)) (fun iv _ => n - (intOf iv).toNat)
  case atStart => exact ⟨0, rfl, Nat.zero_le _, H0⟩
  case round =>
    obtain ⟨i, rfl, hi, HC⟩ := hrel
    by_cases hin : i < n
    · have f1 : decide ((i : Int) < (n : Int)) = true := decide_eq_true (by omega)
      have f9 : decide (i < n) = true := decide_eq_true hin
      have g1 : (0 : Int) ≤ (i : Int) := by omega
      have g2 : (i : Int) < (n : Int) := by omega
      obtain ⟨T, hT⟩ : ∃ T, l[i]? = some T := ⟨_, List.getElem?_eq_getElem (by have := unhide HN; omega)⟩
      obtain ⟨b, off, rfl, hb, ai, ci, k1, k2⟩ : ∃ b off, a = some ⟨b, off, none⟩ ∧ b < w.heap.size ∧ ∃ ai ci, w.cell? ⟨b, off + i, none⟩ = some (.slice ai T.length ci) ∧ Bytes w ai T := by
        rcases unhide HB with h | ⟨b, off, e, hl, hc⟩
        · rw [h] at hT; simp at hT
        · obtain ⟨ai, ci, q1, q2⟩ := hc i T hT
          exact ⟨b, off, e, hl, ai, ci, q1, q2⟩
      have k1 := ((unhide HC).bel.cell (p := ⟨b, off + i, none⟩) hb).trans k1
      have C11 := dcopy_any wr ai ci T ((unhide HL) T (List.mem_of_getElem? hT)) (k2.below' (unhide HC).bel)
      have HT := hide hT
      have hfz : ∀ W', Below wr.heap.size wr W' → W'.frozen? ⟨w.heap.size, i, none⟩ = false ∧ ∃ u, W'.cell? ⟨w.heap.size, i, none⟩ = some u := fun W' hb' => by
        obtain ⟨cur, q1, q2, -⟩ := (unhide HC).row
        have q3 := (hb'.block _ (blk_lt q1)).trans q1
        exact ⟨by simp [World.frozen?, q3], cur[i]'(by omega), by rw [cell_blk q3]; exact Array.getElem?_eq_getElem (by omega)⟩
      have HZ := hide hfz
      have HST : Hid (∀ w3, RB w3 (.slice (some ⟨wr.heap.size, 0, none⟩) T.length T.length) T ∧ Below wr.heap.size wr w3 → CpAt w (w3.setCell ⟨w.heap.size, i, none⟩ (.slice (some ⟨wr.heap.size, 0, none⟩) T.length T.length)) n (i + 1) l) := hide (fun w3 h => (unhide HC).store hin hT h.2 h.1)
      clear hT k2 hfz
      have HTT : Hid (∀ w3, Hid (RB w3 (.slice (some ⟨wr.heap.size, 0, none⟩) T.length T.length) T ∧ Below wr.heap.size wr w3) → Below wr.heap.size wr w3) := hide (fun w3 h => (unhide h).2)
      generalize T.length = t at k1 C11 HST HTT
      go_wp2_with (go_at_call 11; refine C11.mono ?_; clear C11; rintro e w3 ⟨rfl, H3⟩; obtain ⟨hz3, u3, hu3⟩ := (unhide HZ) w3 ((unhide HTT) w3 H3))
      exact ⟨⟨i + 1, congrArg (Value.int .i64) (by omega), by omega, hide ((unhide HST) w3 (unhide H3))⟩, by simp [intOf]; omega⟩
    · obtain rfl : n = i := by omega
      have f1 : decide ((n : Int) < (n : Int)) = false := decide_eq_false (by omega)
      have f9 : decide (n < n) = false := decide_eq_false (by omega)
      go_wp2_with fail
      go_ret
      refine ⟨rfl, hide ⟨?_, (unhide HC).bel⟩⟩
      obtain ⟨cur, q1, q2, q3⟩ := (unhide HC).row
      have hnl := unhide HN
      refine ⟨fun k => cur.getD k undef, .inr ⟨w.heap.size, _, cur, congrArg (fun z => Value.slice (some ⟨w.heap.size, 0, none⟩) z n) hnl, q1, Nat.le_of_eq hnl.symm, by unfold maxLen; omega, by omega, fun k hk => ?_⟩, fun j U hU => ?_⟩
      · have hk2 : k < cur.size := by omega
        simp [Array.getD, hk2]
      · have hj : j < n := by have := (List.getElem?_eq_some_iff.1 hU).1; omega
        obtain ⟨aj, cj, r1, r2⟩ := q3 j U hj hU
        have hj2 : j < cur.size := by omega
        refine ⟨aj, cj, ?_, r2⟩
        rw [Array.getElem?_eq_getElem hj2] at r1
        simp [Array.getD, hj2, Option.some.inj r1]
/-- which comes first -/
def cmpL : List Nat → List Nat → Int
  | [], [] => 0
  | [], _ :: _ => -1
  | _ :: _, [] => 1
  | a :: A, b :: B => if a < b then -1 else if b < a then 1 else cmpL A B
theorem cmpL_at {A B : List Nat} {i : Nat} (ha : i < A.length) (hb : i < B.length) : cmpL (A.drop i) (B.drop i) = if A.getD i 0 < B.getD i 0 then -1 else if B.getD i 0 < A.getD i 0 then 1 else cmpL (A.drop (i + 1)) (B.drop (i + 1)) := by
  rw [List.drop_eq_getElem_cons ha, List.drop_eq_getElem_cons hb, cmpL, List.getD_eq_getElem?_getD, List.getD_eq_getElem?_getD, List.getElem?_eq_getElem ha, List.getElem?_eq_getElem hb]
  rfl
theorem cmpL_end {A B : List Nat} {i : Nat} (h : ¬(i < A.length ∧ i < B.length)) (ha : i ≤ A.length) (hb : i ≤ B.length) : cmpL (A.drop i) (B.drop i) = if A.length < B.length then -1 else if B.length < A.length then 1 else 0 := by
  by_cases h1 : i < A.length
  · have h2 : i = B.length := by omega
    subst h2
    rw [List.drop_eq_getElem_cons h1, List.drop_length, cmpL, if_neg (by omega), if_pos (by omega)]
  · have h2 : i = A.length := by omega
    subst h2
    rw [List.drop_length]
    by_cases h3 : A.length < B.length
    · rw [List.drop_eq_getElem_cons h3, cmpL, if_pos h3]
    · rw [List.drop_of_length_le (by omega), cmpL, if_neg h3, if_neg (by omega)]
theorem dcmp_any (w : World) (a b : Option Addr) (n m c1 c2 : Nat) (A B : List Nat) (hA : Bytes w a A) (hB : Bytes w b B) (hn : n = A.length) (hm : m = B.length) (hn2 : n ≤ 140737488355328) (hm2 : m ≤ 140737488355328) :
    Calls Try.prog 37 #[.slice a n c1, .slice b m c2] w fun e w' => e = .returned (.int .i64 (cmpL A B)) ∧ Hid (Below w.heap.size w w') := by
  have HA := hide hA
  have HB := hide hB
  have HN := hide hn
  have HM := hide hm
  clear hA hB hn hm
  go_enter Try.func37, Try.ntmps37
  go_wp2_with fail
  go_loopw [5] (fun iv wr => ∃ i : Nat, iv = .int .i64 ((i : Nat) : Int) ∧ i ≤ n ∧ i ≤ m ∧ Hid (Below w.heap.size w wr ∧ cmpL A B = cmpL (A.drop i) (B.drop i))) (fun iv _ => n - (intOf iv).toNat)
  case atStart => exact ⟨0, rfl, Nat.zero_le _, Nat.zero_le _, hide ⟨Below.refl _ _, rfl⟩⟩
  case round =>
    obtain ⟨i, rfl, hi, hj, HW⟩ := hrel
    by_cases hin : i < n ∧ i < m
    · have f1 : decide ((i : Int) < (n : Int)) = true := decide_eq_true (by omega)
      have f2 : decide ((i : Int) < (m : Int)) = true := decide_eq_true (by omega)
      have f3 : decide (i < n) = true := decide_eq_true (by omega)
      have f4 : decide (i < m) = true := decide_eq_true (by omega)
      have g1 : (0 : Int) ≤ (i : Int) := by omega
      have g2 : (i : Int) < (n : Int) := by omega
      have g3 : (i : Int) < (m : Int) := by omega
      obtain ⟨ga, oa, rfl, k1⟩ : ∃ ga oa, a = some ⟨ga, oa, none⟩ ∧ wr.cell? ⟨ga, oa + i, none⟩ = some (.int .u8 (A.getD i 0 : Nat)) := by
        rcases unhide HA with h | ⟨ga, oa, e, hl, hc⟩
        · have := unhide HN; rw [h] at this; simp at this; omega
        · exact ⟨ga, oa, e, ((unhide HW).1.cell (p := ⟨ga, oa + i, none⟩) hl).trans (hc i (by have := unhide HN; omega))⟩
      obtain ⟨gb, ob, rfl, k2⟩ : ∃ gb ob, b = some ⟨gb, ob, none⟩ ∧ wr.cell? ⟨gb, ob + i, none⟩ = some (.int .u8 (B.getD i 0 : Nat)) := by
        rcases unhide HB with h | ⟨gb, ob, e, hl, hc⟩
        · have := unhide HM; rw [h] at this; simp at this; omega
        · exact ⟨gb, ob, e, ((unhide HW).1.cell (p := ⟨gb, ob + i, none⟩) hl).trans (hc i (by have := unhide HM; omega))⟩
      have hat := cmpL_at (A := A) (B := B) (i := i) (by have := unhide HN; omega) (by have := unhide HM; omega)
      have HT : Hid (cmpL A B = if A.getD i 0 < B.getD i 0 then -1 else if B.getD i 0 < A.getD i 0 then 1 else cmpL (A.drop (i + 1)) (B.drop (i + 1))) := hide ((unhide HW).2.trans hat)
      clear hat
      have HD := hide (below_drew (unhide HW).1)
      have HD2 := hide (below_drew (below_drew (unhide HW).1))
      generalize A.getD i 0 = x at HT k1
      generalize B.getD i 0 = y at HT k2
      by_cases h1 : x < y
      · have f5 : decide ((x : Int) < (y : Int)) = true := decide_eq_true (by omega)
        have f6 : decide (x < y) = true := decide_eq_true h1
        have HR : Hid (cmpL A B = -1) := hide (by rw [unhide HT, if_pos h1])
        clear h1
        go_wp2_with fail
        go_region_held3 (fun W => W.cell? ⟨ga, oa + i, none⟩ = some (.int .u8 (x : Nat)) ∧ W.cell? ⟨gb, ob + i, none⟩ = some (.int .u8 (y : Nat))) (go_keep) (fail)
        all_goals go_wp2_with fail
        all_goals go_ret
        all_goals exact ⟨congrArg (fun z => Ending.returned (.int .i64 z)) (unhide HR).symm, HD⟩
      · have f5 : decide ((x : Int) < (y : Int)) = false := decide_eq_false (by omega)
        have f6 : decide (x < y) = false := decide_eq_false h1
        by_cases h2 : y < x
        · have f7 : decide ((y : Int) < (x : Int)) = true := decide_eq_true (by omega)
          have f8 : decide ((x : Int) > (y : Int)) = true := decide_eq_true (by omega)
          have f9 : decide (y < x) = true := decide_eq_true h2
          have HR : Hid (cmpL A B = 1) := hide (by rw [unhide HT, if_neg h1, if_pos h2])
          clear h1 h2
          go_wp2_with fail
          go_region_held3 (fun W => W.cell? ⟨ga, oa + i, none⟩ = some (.int .u8 (x : Nat)) ∧ W.cell? ⟨gb, ob + i, none⟩ = some (.int .u8 (y : Nat))) (go_keep) (fail)
          all_goals go_wp2_with fail
          all_goals go_region_held3 (fun W => W.cell? ⟨ga, oa + i, none⟩ = some (.int .u8 (x : Nat)) ∧ W.cell? ⟨gb, ob + i, none⟩ = some (.int .u8 (y : Nat))) (go_keep) (fail)
          all_goals go_wp2_with fail
          all_goals go_ret
          all_goals exact ⟨congrArg (fun z => Ending.returned (.int .i64 z)) (unhide HR).symm, HD2⟩
        · have f7 : decide ((y : Int) < (x : Int)) = false := decide_eq_false (by omega)
          have f8 : decide ((x : Int) > (y : Int)) = false := decide_eq_false (by omega)
          have f9 : decide (y < x) = false := decide_eq_false h2
          have HR : Hid (cmpL A B = cmpL (A.drop (i + 1)) (B.drop (i + 1))) := hide (by rw [unhide HT, if_neg h1, if_neg h2])
          clear h1 h2
          go_wp2_with fail
          go_region_held3 (fun W => W.cell? ⟨ga, oa + i, none⟩ = some (.int .u8 (x : Nat)) ∧ W.cell? ⟨gb, ob + i, none⟩ = some (.int .u8 (y : Nat))) (go_keep) (fail)
          all_goals go_wp2_with fail
          all_goals go_region_held3 (fun W => W.cell? ⟨ga, oa + i, none⟩ = some (.int .u8 (x : Nat)) ∧ W.cell? ⟨gb, ob + i, none⟩ = some (.int .u8 (y : Nat))) (go_keep) (fail)
          all_goals go_wp2_with fail
          all_goals exact ⟨⟨i + 1, congrArg (Value.int .i64) (by omega), by omega, by omega, hide ⟨unhide HD2, unhide HR⟩⟩, by simp [intOf]; omega⟩
    · have HE : Hid (cmpL A B = if n < m then -1 else if m < n then 1 else 0) := hide (by
        have h1 := unhide HN
        have h2 := unhide HM
        rw [(unhide HW).2, cmpL_end (by rw [← h1, ← h2]; exact hin) (by omega) (by omega), ← h1, ← h2])
      have HL := hide (unhide HW).1
      clear HA HB
      by_cases h0 : i < n
      · have f1 : decide ((i : Int) < (n : Int)) = true := decide_eq_true (by omega)
        have f2 : decide ((i : Int) < (m : Int)) = false := decide_eq_false (by omega)
        have f3 : decide (i < n) = true := decide_eq_true (by omega)
        have f4 : decide (i < m) = false := decide_eq_false (by omega)
        have f5 : decide ((n : Int) < (m : Int)) = false := decide_eq_false (by omega)
        have f6 : decide (n < m) = false := decide_eq_false (by omega)
        have f7 : decide ((m : Int) < (n : Int)) = true := decide_eq_true (by omega)
        have f8 : decide (m < n) = true := decide_eq_true (by omega)
        have HR : Hid (cmpL A B = 1) := hide (by rw [unhide HE, if_neg (by omega), if_pos (by omega)])
        clear h0 hin
        go_wp2_with fail
        go_ret
        exact ⟨congrArg (fun z => Ending.returned (.int .i64 z)) (unhide HR).symm, HL⟩
      · have f1 : decide ((i : Int) < (n : Int)) = false := decide_eq_false (by omega)
        have f3 : decide (i < n) = false := decide_eq_false (by omega)
        by_cases h3 : n < m
        · have f5 : decide ((n : Int) < (m : Int)) = true := decide_eq_true (by omega)
          have f6 : decide (n < m) = true := decide_eq_true (by omega)
          have HR : Hid (cmpL A B = -1) := hide (by rw [unhide HE, if_pos h3])
          clear h0 hin h3
          go_wp2_with fail
          go_ret
          exact ⟨congrArg (fun z => Ending.returned (.int .i64 z)) (unhide HR).symm, HL⟩
        · have f5 : decide ((n : Int) < (m : Int)) = false := decide_eq_false (by omega)
          have f6 : decide (n < m) = false := decide_eq_false (by omega)
          have f7 : decide ((m : Int) < (n : Int)) = false := decide_eq_false (by omega)
          have f8 : decide (m < n) = false := decide_eq_false (by omega)
          have HR : Hid (cmpL A B = 0) := hide (by rw [unhide HE, if_neg h3, if_neg (by omega)])
          clear h0 hin h3
          go_wp2_with fail
          go_ret
          exact ⟨congrArg (fun z => Ending.returned (.int .i64 z)) (unhide HR).symm, HL⟩
end Go.Proofs.Ytljeedgnjgeopaa
