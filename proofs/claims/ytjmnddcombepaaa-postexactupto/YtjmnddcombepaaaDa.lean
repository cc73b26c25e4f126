/- The document's Post in memory; New, Count, find, wrong. -/
import Derived.Test.YtjmnddcombepaaaRa
import Derived.Test.YtjmnddcombepaaaPsv
namespace Go.Proofs.Ytjmnddcombepaaa
open Go.ChangeShapes Go.WideShapes Go.ChangeAt Go.RowKit Go.Maps
set_option linter.unusedVariables false
set_option linter.unusedSimpArgs false
set_option maxRecDepth 100000
set_option maxHeartbeats 8000000
/-- a name's cells -/
def nmC (k : Key) : List Value := [.int .i64 k.1, .string (bs k.2.1), .bool k.2.2]
theorem nm_len (L : List Key) : (L.flatMap nmC).length = L.length * 3 := by
  induction L with
  | nil => rfl
  | cons y r ih => rw [List.flatMap_cons, List.length_append, ih, List.length_cons]; show 3 + _ = _; omega
theorem nm_get (L : List Key) (i : Nat) (x : Key) (hi : L[i]? = some x) (j : Nat) (hj : j < 3) : (L.flatMap nmC)[i * 3 + j]? = (nmC x)[j]? := by
  induction L generalizing i with
  | nil => simp at hi
  | cons y r ih =>
    rw [List.flatMap_cons]
    cases i with
    | zero =>
      obtain rfl : y = x := by simpa using hi
      rw [Nat.zero_mul, Nat.zero_add, List.getElem?_append_left (by show j < 3; exact hj)]
    | succ i =>
      have e : (i + 1) * 3 + j = 3 + (i * 3 + j) := by omega
      rw [List.getElem?_append_right (by show 3 ≤ _; omega), e, show 3 + (i * 3 + j) - (nmC y).length = i * 3 + j from Nat.add_sub_cancel_left 3 _]
      exact ih i (by simpa using hi)
/-- the document's Post: the names in the order in which they were joined; v: its list -/
structure RPv (w : World) (q : Nat) (v : Value) (L : List Key) : Prop where
  cell : w.heap[q]? = some (.cells #[v] 99 (0, 0))
  row : Rws w 113 3 v L.length (fun k => (L.flatMap nmC).getD k undef)
def RP (w : World) (q : Nat) (L : List Key) : Prop := ∃ v, RPv w q v L
theorem RPv.lt {w : World} {q : Nat} {v : Value} {L : List Key} (h : RPv w q v L) : q < w.heap.size := blk_lt h.cell
theorem RPv.ne {w : World} {q : Nat} {v : Value} {L : List Key} (h : RPv w q v L) : ∀ g, v.ownBlock = some g → g ≠ q := fun g hg e => by
  obtain ⟨c, hc⟩ := h.row.type g hg
  rw [e, h.cell] at hc
  simp at hc
theorem RPv.below {w w' : World} {q : Nat} {v : Value} {L : List Key} (h : RPv w q v L) (hb : Below w.heap.size w w') : RPv w' q v L := ⟨(hb.block q h.lt).trans h.cell, h.row.below hb⟩
theorem RP.below {w w' : World} {q : Nat} {L : List Key} (h : RP w q L) (hb : Below w.heap.size w w') : RP w' q L := by
  obtain ⟨v, h⟩ := h
  exact ⟨v, h.below hb⟩
/-- the cells of the i-th name -/
theorem RPv.at {w : World} {q : Nat} {v : Value} {L : List Key} (h : RPv w q v L) {i : Nat} {x : Key} (hx : L[i]? = some x) : ∃ g cap, v = .slice (some ⟨g, 0, none⟩) L.length cap ∧ w.cell? ⟨g, i * 3, none⟩ = some (.int .i64 x.1) ∧ w.cell? ⟨g, i * 3 + 1, none⟩ = some (.string (bs x.2.1)) ∧ w.cell? ⟨g, i * 3 + 2, none⟩ = some (.bool x.2.2) := by
  have hi : i < L.length := (List.getElem?_eq_some_iff.1 hx).1
  obtain ⟨g, cap, e, -, -, hc⟩ := h.row.at (by omega)
  have hg : ∀ j u, j < 3 → (nmC x)[j]? = some u → w.cell? ⟨g, i * 3 + j, none⟩ = some u := fun j u hj hu => by
    have h1 := nm_get L i x hx j hj
    rw [hu] at h1
    rw [hc (i * 3 + j) (by omega)]
    show some (List.getD _ _ undef) = _
    rw [List.getD_eq_getElem?_getD, h1]; rfl
  exact ⟨g, cap, e, hg 0 _ (by omega) rfl, hg 1 _ (by omega) rfl, hg 2 _ (by omega) rfl⟩
theorem dnew_any (w : World) : Calls Try.prog 27 #[] w fun e w' => e = .returned (.pointer (some ⟨w.heap.size, 0, none⟩)) ∧ Hid (RP w' w.heap.size [] ∧ Below w.heap.size w w') := by
  go_enter Try.func27, Try.ntmps27
  go_wp2_with fail
  go_ret
  exact ⟨rfl, hide ⟨⟨.slice none 0 0, heap_alloc_new _ _, .inl ⟨rfl, rfl⟩⟩, (Below.refl _ _).alloc (Nat.le_refl _) _⟩⟩
theorem dcount_any (w : World) (q : Nat) (L : List Key) (c : Int) (h : RP w q L) (hL : L.length ≤ 1000000) :
    Calls Try.prog 53 #[.pointer (some ⟨q, 0, none⟩), .int .i64 c] w fun e w' => e = .returned (.int .i64 (cntC L c : Nat)) ∧ w' = w := by
  obtain ⟨v, h⟩ := h
  obtain ⟨a, cap, rfl⟩ := h.row.shape
  have c0 : w.cell? ⟨q, 0, none⟩ = some (.slice a L.length cap) := cell_blk h.cell 0
  obtain ⟨n, hn⟩ : ∃ n, n = L.length := ⟨_, rfl⟩
  have HR : Hid (∀ i x, L[i]? = some x → ∃ b, a = some ⟨b, 0, none⟩ ∧ w.cell? ⟨b, i * 3, none⟩ = some (.int .i64 x.1)) := hide fun i x hx => by
    obtain ⟨g, cp, e, k0, -⟩ := h.at hx
    cases e
    exact ⟨g, rfl, k0⟩
  rw [← hn] at c0 hL
  have HN := hide hn
  clear h hn
  go_enter Try.func53, Try.ntmps53
  go_wp2_with fail
  go_loopw [5, 6] (fun nv iv wr => ∃ i : Nat, nv = .int .i64 (cntC (L.take i) c : Nat) ∧ iv = .int .i64 ((i : Nat) : Int) ∧ i ≤ n ∧ wr = w) (fun _ iv _ => n - (intOf iv).toNat)
  case atStart => exact ⟨0, rfl, rfl, Nat.zero_le _, rfl⟩
  case round =>
    obtain ⟨i, rfl, rfl, hi, rfl⟩ := hrel
    by_cases hin : i < n
    · have f1 : decide ((i : Int) < (n : Int)) = true := decide_eq_true (by omega)
      have f9 : decide (i < n) = true := decide_eq_true (by omega)
      have g1 : (0 : Int) ≤ (i : Int) := by omega
      have g2 : (i : Int) < (n : Int) := by omega
      obtain ⟨x, hx⟩ : ∃ x, L[i]? = some x := ⟨_, List.getElem?_eq_getElem (by have := unhide HN; omega)⟩
      obtain ⟨b, rfl, k0⟩ := (unhide HR) i x hx
      have ht : L.take (i + 1) = L.take i ++ [x] := by rw [List.take_add_one, hx]; rfl
      have hle : cntC (L.take i) c ≤ i := Nat.le_trans (cntC_le _ _) (by rw [List.length_take]; omega)
      have hs := cntC_snoc (L.take i) x c
      rw [← ht] at hs
      have HS := hide hs
      clear hs ht hx
      generalize cntC (L.take i) c = m at HS hle ⊢
      have q1 : IntKind.i64.wrap ((m : Int) + 1) = (m : Int) + 1 := by rw [IntKind.wrap_i64]; omega
      by_cases hc : x.1 = c
      · have f2 : (x.1 == c) = true := by simpa using hc
        have HS2 : Hid (cntC (L.take (i + 1)) c = m + 1) := hide (by rw [unhide HS, if_pos hc])
        clear hc
        go_wp2_with fail
        exact ⟨⟨i + 1, congrArg (Value.int .i64) (by rw [unhide HS2]; omega), congrArg (Value.int .i64) (by omega), by omega, (by first | exact rfl | trivial)⟩, by simp [intOf]; omega⟩
      · have f2 : (x.1 == c) = false := by simpa using hc
        have HS2 : Hid (cntC (L.take (i + 1)) c = m) := hide (by rw [unhide HS, if_neg hc]; rfl)
        clear hc
        go_wp2_with fail
        exact ⟨⟨i + 1, congrArg (Value.int .i64) (by rw [unhide HS2]), congrArg (Value.int .i64) (by omega), by omega, (by first | exact rfl | trivial)⟩, by simp [intOf]; omega⟩
    · obtain rfl : n = i := by omega
      have f1 : decide ((n : Int) < (n : Int)) = false := decide_eq_false (by omega)
      have f9 : decide (n < n) = false := decide_eq_false (by omega)
      have ht : L.take n = L := List.take_of_length_le (by have := unhide HN; omega)
      rw [ht]
      clear ht
      go_wp2_with fail
      go_ret
      exact ⟨rfl, rfl⟩
theorem dwrong_any (w : World) (c : Int) (T : List UInt8) (hT : T.length ≤ 140737488355328) :
    Calls Try.prog 66 #[.int .i64 c, .string (bs T)] w fun e w' => e = .returned (.int .i64 (if c < 0 ∨ 8 ≤ c then 170 else if 4096 < T.length then 171 else 0)) ∧ w' = w := by
  have hz : (bs T).size = T.length := by simp [bs, ByteArray.size]
  by_cases h1 : c < 0
  · have f1 : decide (c < 0) = true := decide_eq_true h1
    rw [if_pos (.inl h1)]
    clear h1
    go_enter Try.func66, Try.ntmps66
    go_wp2_with fail
    go_ret
    exact ⟨rfl, rfl⟩
  · have f1 : decide (c < 0) = false := decide_eq_false h1
    by_cases h2 : 8 ≤ c
    · have f2 : decide (8 ≤ c) = true := decide_eq_true h2
      have f3 : decide (c ≥ 8) = true := decide_eq_true h2
      rw [if_pos (.inr h2)]
      clear h1 h2
      go_enter Try.func66, Try.ntmps66
      go_wp2_with fail
      go_ret
      exact ⟨rfl, rfl⟩
    · have f2 : decide (8 ≤ c) = false := decide_eq_false h2
      have f3 : decide (c ≥ 8) = false := decide_eq_false h2
      rw [if_neg (by omega)]
      clear h1 h2
      by_cases h4 : 4096 < T.length
      · have f4 : decide ((4096 : Int) < (T.length : Int)) = true := decide_eq_true (by omega)
        rw [if_pos h4]
        generalize T.length = n at *
        clear h4
        go_enter Try.func66, Try.ntmps66
        go_wp2_with fail
        go_ret
        exact ⟨rfl, rfl⟩
      · have f4 : decide ((4096 : Int) < (T.length : Int)) = false := decide_eq_false (by omega)
        rw [if_neg h4]
        generalize T.length = n at *
        clear h4
        go_enter Try.func66, Try.ntmps66
        go_wp2_with fail
        go_ret
        exact ⟨rfl, rfl⟩
/-- where a name stands -/
def findD (L : List Key) (k : Key) : Option Nat := L.findIdx? (fun y => decide (y = k))
def findDI (L : List Key) (k : Key) : Int := match findD L k with
  | some i => (i : Int)
  | none => -1
theorem findD_here {L : List Key} {k x : Key} {i : Nat} (hx : L[i]? = some x) (he : x = k) (hb : ∀ j y, j < i → L[j]? = some y → y ≠ k) : findDI L k = (i : Int) := by
  have hi : i < L.length := (List.getElem?_eq_some_iff.1 hx).1
  have : findD L k = some i := by
    unfold findD
    refine List.findIdx?_eq_some_iff_getElem.2 ⟨hi, ?_, fun j hj => ?_⟩
    · have : L[i] = x := (List.getElem?_eq_some_iff.1 hx).2
      rw [this]; exact decide_eq_true he
    · have := hb j (L[j]) hj (List.getElem?_eq_getElem (by omega))
      simpa using this
  unfold findDI
  rw [this]
theorem findD_not {L : List Key} {k : Key} (hb : ∀ j y, j < L.length → L[j]? = some y → y ≠ k) : findDI L k = -1 := by
  have : findD L k = none := by
    unfold findD
    refine List.findIdx?_eq_none_iff.2 fun x hx => ?_
    obtain ⟨i, hi, e⟩ := List.getElem_of_mem hx
    have := hb i x hi (by rw [List.getElem?_eq_getElem hi, e])
    simpa using this
  unfold findDI
  rw [this]
theorem dfind_any (w : World) (q : Nat) (L : List Key) (k : Key) (h : RP w q L) (hL : L.length ≤ 1000000) :
    Calls Try.prog 67 #[.pointer (some ⟨q, 0, none⟩), .agg #[.int .i64 k.1, .string (bs k.2.1), .bool k.2.2]] w fun e w' => e = .returned (.int .i64 (findDI L k)) ∧ Hid (Below w.heap.size w w') := by
  obtain ⟨c, T, p⟩ := k
  obtain ⟨v, h⟩ := h
  obtain ⟨a, cap, rfl⟩ := h.row.shape
  have HP := hide (And.intro h.lt (cell_blk h.cell 0))
  obtain ⟨n, hn⟩ : ∃ n, n = L.length := ⟨_, rfl⟩
  have HR : Hid (∀ i x, L[i]? = some x → ∃ b, a = some ⟨b, 0, none⟩ ∧ b < w.heap.size ∧ w.cell? ⟨b, i * 3, none⟩ = some (.int .i64 x.1) ∧ w.cell? ⟨b, i * 3 + 1, none⟩ = some (.string (bs x.2.1)) ∧ w.cell? ⟨b, i * 3 + 2, none⟩ = some (.bool x.2.2)) := hide fun i x hx => by
    obtain ⟨g, cp, e, k0, k1, k2⟩ := h.at hx
    cases e
    exact ⟨g, rfl, h.row.lt g rfl, k0, k1, k2⟩
  rw [← hn] at HP hL
  have HN := hide hn
  clear h hn
  obtain ⟨w0, hw0⟩ : ∃ w0, w.alloc (.cells #[.int .i64 c, .string (bs T), .bool p] 113) = w0 := ⟨_, rfl⟩
  have HW : Hid (Below w.heap.size w w0 ∧ w0.heap[w.heap.size]? = some (.cells #[.int .i64 c, .string (bs T), .bool p] 113 (0, 0))) := by
    rw [← hw0]; exact hide ⟨(Below.refl w.heap.size w).alloc (Nat.le_refl _) _, heap_alloc_new _ _⟩
  have c0 : w0.cell? ⟨q, 0, none⟩ = some (.slice a n cap) := by
    obtain ⟨l0, l1⟩ := unhide HP
    exact ((unhide HW).1.cell (p := ⟨q, 0, none⟩) l0).trans l1
  go_enter Try.func67, Try.ntmps67
  go_wp2_with fail
  clear c0
  go_loopw [5] (fun iv wr => ∃ i : Nat, iv = .int .i64 ((i : Nat) : Int) ∧ i ≤ n ∧ Hid (Below w0.heap.size w0 wr ∧ ∀ j y, j < i → L[j]? = some y → y ≠ (c, T, p))) (fun iv _ => n - (intOf iv).toNat)
  case atStart => exact ⟨0, rfl, Nat.zero_le _, hide ⟨Below.refl _ _, fun j y hj => by omega⟩⟩
  case round =>
    obtain ⟨i, rfl, hi, HB⟩ := hrel
    have c0 : wr.cell? ⟨q, 0, none⟩ = some (.slice a n cap) := by
      obtain ⟨l0, l1⟩ := unhide HP
      have hw := (unhide HW).1
      exact ((hw.trans ((unhide HB).1.mono hw.size)).cell (p := ⟨q, 0, none⟩) l0).trans l1
    by_cases hin : i < n
    · have f1 : decide ((i : Int) < (n : Int)) = true := decide_eq_true (by omega)
      have f9 : decide (i < n) = true := decide_eq_true (by omega)
      have g1 : (0 : Int) ≤ (i : Int) := by omega
      have g2 : (i : Int) < (n : Int) := by omega
      obtain ⟨⟨c', T', p'⟩, hx⟩ : ∃ x, L[i]? = some x := ⟨_, List.getElem?_eq_getElem (by have := unhide HN; omega)⟩
      obtain ⟨b, rfl, hb, k0, k1, k2⟩ := (unhide HR) i _ hx
      have hbw : Below w.heap.size w wr := by
        have hw := (unhide HW).1
        exact hw.trans ((unhide HB).1.mono hw.size)
      have k0 := (hbw.cell (p := ⟨b, i * 3, none⟩) hb).trans k0
      have k1 := (hbw.cell (p := ⟨b, i * 3 + 1, none⟩) hb).trans k1
      have k2 := (hbw.cell (p := ⟨b, i * 3 + 2, none⟩) hb).trans k2
      have hx0 : wr.heap[w.heap.size]? = some (.cells #[.int .i64 c, .string (bs T), .bool p] 113 (0, 0)) := ((unhide HB).1.block w.heap.size (blk_lt (unhide HW).2)).trans (unhide HW).2
      obtain ⟨W1, hW1⟩ : ∃ W1, wr.alloc (.cells #[.int .i64 c', .string (bs T'), .bool p'] 113) = W1 := ⟨_, rfl⟩
      have hy : W1.heap[wr.heap.size]? = some (.cells #[.int .i64 c', .string (bs T'), .bool p'] 113 (0, 0)) := by rw [← hW1]; exact heap_alloc_new _ _
      have hx1 : W1.heap[w.heap.size]? = some (.cells #[.int .i64 c, .string (bs T), .bool p] 113 (0, 0)) := by
        rw [← hW1]
        exact (((Below.refl wr.heap.size wr).alloc (Nat.le_refl _) _).block w.heap.size (blk_lt hx0)).trans hx0
      have HB1 : Hid (Below w0.heap.size w0 W1) := by rw [← hW1]; exact hide ((unhide HB).1.trans (((Below.refl wr.heap.size wr).alloc (Nat.le_refl _) _).mono (unhide HB).1.size))
      have x0 : W1.cell? ⟨w.heap.size, 0, none⟩ = some (.int .i64 c) := cell_blk hx1 0
      have x1 : W1.cell? ⟨w.heap.size, 1, none⟩ = some (.string (bs T)) := cell_blk hx1 1
      have x2 : W1.cell? ⟨w.heap.size, 2, none⟩ = some (.bool p) := cell_blk hx1 2
      have y0 : W1.cell? ⟨wr.heap.size, 0, none⟩ = some (.int .i64 c') := cell_blk hy 0
      have y1 : W1.cell? ⟨wr.heap.size, 1, none⟩ = some (.string (bs T')) := cell_blk hy 1
      have y2 : W1.cell? ⟨wr.heap.size, 2, none⟩ = some (.bool p') := cell_blk hy 2
      clear hx0 hy hx1 hbw
      have HX := hide hx
      clear hx
      by_cases he : c' = c ∧ T' = T ∧ p' = p
      · obtain ⟨rfl, rfl, rfl⟩ := he
        have f2 : ((c' : Int) == c') = true := by simp
        have f3 : ((bs T').toList == (bs T').toList) = true := by simp
        have f4 : (p' == p') = true := by simp
        go_wp2_with fail
        go_ret
        exact ⟨congrArg (fun z => Ending.returned (.int .i64 z)) (findD_here (unhide HX) rfl (unhide HB).2).symm, hide ((unhide HW).1.trans ((unhide HB1).mono (unhide HW).1.size))⟩
      · have HN2 : Hid (∀ j y, j < i + 1 → L[j]? = some y → y ≠ (c, T, p)) := hide fun j y hj hy => by
          by_cases z : j < i
          · exact (unhide HB).2 j y z hy
          · obtain rfl : j = i := by omega
            rw [unhide HX] at hy
            cases hy
            intro e
            cases e
            exact he ⟨rfl, rfl, rfl⟩
        clear HB
        by_cases e1 : c' = c
        · subst e1
          have f2 : ((c' : Int) == c') = true := by simp
          by_cases e2 : T' = T
          · subst e2
            have f3 : ((bs T').toList == (bs T').toList) = true := by simp
            have f4 : (p' == p) = false := by simpa using fun z => he ⟨rfl, rfl, z⟩
            clear he
            go_wp2_with fail
            exact ⟨⟨i + 1, congrArg (Value.int .i64) (by omega), by omega, hide ⟨unhide HB1, unhide HN2⟩⟩, by simp [intOf]; omega⟩
          · have f3 : ((bs T').toList == (bs T).toList) = false := by
              rw [key3 c' T' T p]
              exact decide_eq_false (fun z => e2 (congrArg (fun k : Key => k.2.1) z))
            clear he e2
            go_wp2_with fail
            exact ⟨⟨i + 1, congrArg (Value.int .i64) (by omega), by omega, hide ⟨unhide HB1, unhide HN2⟩⟩, by simp [intOf]; omega⟩
        · have f2 : ((c' : Int) == c) = false := by simpa using e1
          clear he e1
          go_wp2_with fail
          exact ⟨⟨i + 1, congrArg (Value.int .i64) (by omega), by omega, hide ⟨unhide HB1, unhide HN2⟩⟩, by simp [intOf]; omega⟩
    · obtain rfl : n = i := by omega
      have f1 : decide ((n : Int) < (n : Int)) = false := decide_eq_false (by omega)
      have f9 : decide (n < n) = false := decide_eq_false (by omega)
      go_wp2_with fail
      go_ret
      refine ⟨congrArg (fun z => Ending.returned (.int .i64 z)) (findD_not (fun j y hj hy => (unhide HB).2 j y (by rw [unhide HN]; exact hj) hy)).symm, hide ((unhide HW).1.trans ((unhide HB).1.mono (unhide HW).1.size))⟩
end Go.Proofs.Ytjmnddcombepaaa
