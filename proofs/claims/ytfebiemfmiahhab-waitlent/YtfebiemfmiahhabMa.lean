/- The document's Wait in memory; Find. -/
import Derived.Test.YtfebiemfmiahhabLc
import Derived.BigQuiet
namespace Go.Proofs.Ytfebiemfmiahhab
open Go.ChangeShapes Go.WideShapes Go.ChangeAt Go.RowKit Go.Maps
set_option linter.unusedVariables false
set_option linter.unusedSimpArgs false
set_option maxRecDepth 100000
set_option maxHeartbeats 8000000
/-- one who waits, in the document's line, and the value of its places -/
structure Dw where
  x : Wt
  v : Value
def dwC (d : Dw) : List Value := [.int .i64 (d.x.conn : Nat), .int .i64 d.x.kind, d.v, .int .u64 (d.x.till : Nat)]
/-- places in a row of one's own -/
structure PlsO (Q : Nat → Prop) (w : World) (v : Value) (l : List Pl) : Prop where
  own : w.ownsRow 0 46 2 v l.length (l.flatMap plC)
  q : ∀ g, v.ownBlock = some g → Q g
/-- the document's Wait -/
structure RA (Q : Nat → Prop) (w : World) (p : Nat) (lv : Value) (D : List Dw) : Prop where
  cell : w.heap[p]? = some (.cells #[lv] 35 (0, 0))
  own : w.ownsRow 0 78 4 lv D.length (D.flatMap dwC)
  lq : ∀ g, lv.ownBlock = some g → Q g
  pl : ∀ d ∈ D, PlsO Q w d.v d.x.places
  op : Q p
  lt : ∀ b, Q b → b < w.heap.size
  ok : ∀ d ∈ D, WOk d.x
  few : D.length ≤ 8
def RAt (Q : Nat → Prop) (w : World) (p : Nat) (L : List Wt) : Prop := ∃ lv D, RA Q w p lv D ∧ D.map (·.x) = L
theorem ownsRow_same {w w' : World} {base : Nat} {e : TypeId} {size : Nat} {v : Value} {n : Nat} {xs : List Value} (h : w.ownsRow base e size v n xs) (hO : ∀ g, v.ownBlock = some g → w'.heap[g]? = w.heap[g]?) : w'.ownsRow base e size v n xs := by
  obtain ⟨h0, h1⟩ := h
  refine ⟨h0, h1.imp id ?_⟩
  rintro ⟨g, cap, cur, rfl, hb, hg, r⟩
  exact ⟨g, cap, cur, rfl, hb, (hO g rfl).trans hg, r⟩
theorem PlsO.same {Q Q' : Nat → Prop} {w w' : World} {v : Value} {l : List Pl} (h : PlsO Q w v l) (hO : ∀ b, Q b → w'.heap[b]? = w.heap[b]?) (hs : ∀ b, Q b → Q' b) : PlsO Q' w' v l :=
  ⟨ownsRow_same h.own (fun g hg => hO g (h.q g hg)), fun g hg => hs g (h.q g hg)⟩
theorem RA.same {Q Q' : Nat → Prop} {w w' : World} {p : Nat} {lv : Value} {D : List Dw} (h : RA Q w p lv D) (hO : ∀ b, Q b → w'.heap[b]? = w.heap[b]?) (hs : ∀ b, Q b → Q' b) (hl : ∀ b, Q' b → b < w'.heap.size) : RA Q' w' p lv D :=
  ⟨(hO p h.op).trans h.cell, ownsRow_same h.own (fun g hg => hO g (h.lq g hg)), fun g hg => hs g (h.lq g hg), fun d hd => (h.pl d hd).same hO hs, hs _ h.op, hl, h.ok, h.few⟩
theorem RAt.same {Q Q' : Nat → Prop} {w w' : World} {p : Nat} {L : List Wt} (h : RAt Q w p L) (hO : ∀ b, Q b → w'.heap[b]? = w.heap[b]?) (hs : ∀ b, Q b → Q' b) (hl : ∀ b, Q' b → b < w'.heap.size) : RAt Q' w' p L := by
  obtain ⟨lv, D, h, e⟩ := h
  exact ⟨lv, D, h.same hO hs hl, e⟩
theorem RAt.below {Q : Nat → Prop} {w w' : World} {p : Nat} {L : List Wt} (h : RAt Q w p L) (hb : Below w.heap.size w w') : RAt Q w' p L := by
  obtain ⟨lv, D, h, e⟩ := h
  exact ⟨lv, D, h.same (fun b ob => hb.block b (h.lt b ob)) (fun b ob => ob) (fun b ob => Nat.lt_of_lt_of_le (h.lt b ob) hb.size), e⟩
/-- a row's cells, element by element -/
theorem flat_get {α : Type} (f : α → List Value) (k : Nat) (hf : ∀ x, (f x).length = k) (l : List α) (i : Nat) (x : α) (hi : l[i]? = some x) (j : Nat) (hj : j < k) : (l.flatMap f)[i * k + j]? = (f x)[j]? := by
  induction l generalizing i with
  | nil => simp at hi
  | cons y r ih =>
    rw [List.flatMap_cons]
    cases i with
    | zero =>
      obtain rfl : y = x := by simpa using hi
      rw [Nat.zero_mul, Nat.zero_add, List.getElem?_append_left (by rw [hf]; exact hj)]
    | succ i =>
      have e : (i + 1) * k + j = k + (i * k + j) := by rw [Nat.add_mul]; omega
      rw [List.getElem?_append_right (by rw [hf, e]; omega), hf, e, Nat.add_sub_cancel_left]
      exact ih i (by simpa using hi)
theorem own_cell {w : World} {base : Nat} {e : TypeId} {size : Nat} {v : Value} {n : Nat} {xs : List Value} (h : w.ownsRow base e size v n xs) {j : Nat} {u : Value} (hj : xs[j]? = some u) : ∃ g cap, v = .slice (some ⟨g, 0, none⟩) n cap ∧ w.cell? ⟨g, j, none⟩ = some u ∧ g < w.heap.size := by
  obtain ⟨h0, h1⟩ := h
  have hjl : j < xs.length := (List.getElem?_eq_some_iff.1 hj).1
  rcases h1 with ⟨-, rfl⟩ | ⟨g, cap, cur, rfl, hb, hg, hle, hcm, hsz, htk⟩
  · rw [Nat.zero_mul] at h0; omega
  · refine ⟨g, cap, rfl, ?_, blk_lt hg⟩
    rw [cell_blk hg]
    rw [← htk, List.getElem?_take] at hj
    split at hj
    · simpa using hj
    · cases hj
theorem own_shape {w : World} {base : Nat} {e : TypeId} {size : Nat} {v : Value} {n : Nat} {xs : List Value} (h : w.ownsRow base e size v n xs) : ∃ a cap, v = .slice a n cap ∧ (a = none → cap = 0 ∧ n = 0) := by
  rcases h.2 with ⟨rfl, rfl⟩ | ⟨g, cap, cur, rfl, -⟩
  · exact ⟨none, 0, rfl, fun _ => ⟨rfl, rfl⟩⟩
  · exact ⟨_, cap, rfl, fun e => by cases e⟩
theorem RA.at {Q : Nat → Prop} {w : World} {p : Nat} {lv : Value} {D : List Dw} (h : RA Q w p lv D) {i : Nat} {d : Dw} (hd : D[i]? = some d) : ∃ b cap, lv = .slice (some ⟨b, 0, none⟩) D.length cap ∧ w.cell? ⟨b, i * 4, none⟩ = some (.int .i64 (d.x.conn : Nat)) ∧ w.cell? ⟨b, i * 4 + 1, none⟩ = some (.int .i64 d.x.kind) ∧ w.cell? ⟨b, i * 4 + 2, none⟩ = some d.v ∧ w.cell? ⟨b, i * 4 + 3, none⟩ = some (.int .u64 (d.x.till : Nat)) := by
  have g := fun j (hj : j < 4) => flat_get dwC 4 (fun _ => rfl) D i d hd j hj
  obtain ⟨b, cap, e, c0, -⟩ := own_cell h.own (g 0 (by omega))
  refine ⟨b, cap, e, c0, ?_, ?_, ?_⟩
  · obtain ⟨b', cap', e', c, -⟩ := own_cell h.own (g 1 (by omega))
    rw [e] at e'; cases e'; exact c
  · obtain ⟨b', cap', e', c, -⟩ := own_cell h.own (g 2 (by omega))
    rw [e] at e'; cases e'; exact c
  · obtain ⟨b', cap', e', c, -⟩ := own_cell h.own (g 3 (by omega))
    rw [e] at e'; cases e'; exact c
theorem PlsO.at {Q : Nat → Prop} {w : World} {v : Value} {l : List Pl} (h : PlsO Q w v l) : ∃ a cap, v = .slice a l.length cap ∧ PlsAt w a l ∧ (a = none → cap = 0 ∧ l = []) := by
  obtain ⟨a, cap, rfl, hn⟩ := own_shape h.own
  refine ⟨a, cap, rfl, ?_, fun e => ⟨(hn e).1, List.eq_nil_of_length_eq_zero (hn e).2⟩⟩
  by_cases h0 : l = []
  · exact .inl h0
  · have hpos : 0 < l.length := List.length_pos_iff.2 h0
    obtain ⟨x0, hx0⟩ : ∃ x, l[0]? = some x := ⟨_, List.getElem?_eq_getElem hpos⟩
    have g := fun i x (hx : l[i]? = some x) j (hj : j < 2) => flat_get plC 2 (fun _ => rfl) l i x hx j hj
    obtain ⟨b, cp, e, -, hlt⟩ := own_cell h.own (g 0 x0 hx0 0 (by omega))
    cases e
    refine .inr ⟨b, 0, rfl, hlt, fun i x hx => ?_⟩
    rw [Nat.zero_add]
    obtain ⟨b1, cp1, e1, d0, -⟩ := own_cell h.own (g i x hx 0 (by omega))
    obtain ⟨b2, cp2, e2, d1, -⟩ := own_cell h.own (g i x hx 1 (by omega))
    cases e1
    cases e2
    exact ⟨d0, d1⟩
/-- where one stands -/
def findW (L : List Wt) (c : Int) : Option Nat := L.findIdx? (fun x => decide ((x.conn : Int) = c))
def findI (L : List Wt) (c : Int) : Int := match findW L c with
  | some i => (i : Int)
  | none => -1
theorem find_here {L : List Wt} {c : Int} {i : Nat} {x : Wt} (hx : L[i]? = some x) (he : (x.conn : Int) = c) (hb : ∀ k y, k < i → L[k]? = some y → (y.conn : Int) ≠ c) : findW L c = some i := by
  unfold findW
  have hi : i < L.length := (List.getElem?_eq_some_iff.1 hx).1
  refine List.findIdx?_eq_some_iff_getElem.2 ⟨hi, ?_, fun k hk => ?_⟩
  · have : L[i] = x := (List.getElem?_eq_some_iff.1 hx).2
    rw [this]; exact decide_eq_true he
  · have := hb k (L[k]) hk (List.getElem?_eq_getElem (by omega))
    simpa using this
theorem find_not {L : List Wt} {c : Int} (hb : ∀ k y, k < L.length → L[k]? = some y → (y.conn : Int) ≠ c) : findW L c = none := by
  unfold findW
  refine List.findIdx?_eq_none_iff.2 fun x hx => ?_
  obtain ⟨i, hi, e⟩ := List.getElem_of_mem hx
  have := hb i x hi (by rw [List.getElem?_eq_getElem hi, e])
  simpa using this
theorem find_any (Q : Nat → Prop) (w : World) (p : Nat) (L : List Wt) (c : Int) (h : RAt Q w p L) :
    Calls Try.prog 39 #[.pointer (some ⟨p, 0, none⟩), .int .i64 c] w fun e w' => e = .returned (.int .i64 (findI L c)) ∧ w' = w := by
  obtain ⟨lv, D, h, hD⟩ := h
  obtain ⟨a, cap, rfl, -⟩ := own_shape h.own
  have few := h.few
  obtain ⟨n, hn⟩ : ∃ n, n = D.length := ⟨_, rfl⟩
  have hp := h.cell
  have HR : Hid (∀ i x, L[i]? = some x → ∃ b, a = some ⟨b, 0, none⟩ ∧ w.cell? ⟨b, i * 4, none⟩ = some (.int .i64 (x.conn : Nat))) := hide fun i x hx => by
    rw [← hD, List.getElem?_map] at hx
    obtain ⟨d, hd, rfl⟩ := Option.map_eq_some_iff.1 hx
    obtain ⟨b, cp, e, c0, -⟩ := h.at hd
    cases e
    exact ⟨b, rfl, c0⟩
  rw [← hn] at hp few
  have HN : Hid (n = L.length) := by rw [← hD, List.length_map]; exact hide hn
  have c0 : w.cell? ⟨p, 0, none⟩ = some (.slice a n cap) := cell_blk hp 0
  clear hn hp h hD
  go_enter Try.func39, Try.ntmps39
  go_wp2_with fail
  go_loopw [5] (fun iv wr => ∃ i : Nat, iv = .int .i64 ((i : Nat) : Int) ∧ i ≤ n ∧ wr = w ∧ Hid (∀ k y, k < i → L[k]? = some y → (y.conn : Int) ≠ c)) (fun iv _ => n - (intOf iv).toNat)
  case atStart => exact ⟨0, rfl, Nat.zero_le _, rfl, hide (fun k y hk => by omega)⟩
  case round =>
    obtain ⟨i, rfl, hi, hw, HB⟩ := hrel
    obtain rfl := hw.symm
    clear hw
    by_cases hin : i < n
    · have f1 : decide ((i : Int) < (n : Int)) = true := decide_eq_true (by omega)
      have g1 : (0 : Int) ≤ (i : Int) := by omega
      have g2 : (i : Int) < (n : Int) := by omega
      obtain ⟨x, hx⟩ : ∃ x, L[i]? = some x := ⟨_, List.getElem?_eq_getElem (by have := unhide HN; omega)⟩
      obtain ⟨b, rfl, d0⟩ := unhide HR i x hx
      have HX := hide hx
      clear hx
      by_cases hc : (x.conn : Int) = c
      · have f2 : ((x.conn : Int) == c) = true := by simpa using hc
        go_wp2_with fail
        go_ret
        refine ⟨?_, rfl⟩
        unfold findI
        rw [find_here (unhide HX) hc (unhide HB)]
        rfl
      · have f2 : ((x.conn : Int) == c) = false := by simpa using hc
        go_wp2_with fail
        go_roundw
        case rel =>
          refine ⟨i + 1, by go_num, by omega, by first | rfl | trivial, hide fun k y hk hy => ?_⟩
          by_cases e : k = i
          · subst e
            rw [unhide HX] at hy
            cases hy
            exact hc
          · exact unhide HB k y (by omega) hy
        case measure => simp [intOf]; omega
    · obtain rfl : i = n := by omega
      have f1 : decide ((i : Int) < (i : Int)) = false := decide_eq_false (by omega)
      go_wp2_with fail
      go_ret
      refine ⟨?_, rfl⟩
      unfold findI
      rw [find_not (fun k y hk => unhide HB k y (by have := unhide HN; omega))]
      rfl
def badB (l : List Pl) : Bool := decide (l.length = 0 ∨ 64 < l.length ∨ l.any wrongB = true)
theorem bad_any (w : World) (a : Option Addr) (cap : Nat) (l : List Pl) (n : Nat) (hn : n = l.length) (hn2 : n ≤ 9223372036854775807) (h : PlsAt w a l) (hok : ∀ x ∈ l, POk x) :
    Calls Try.prog 40 #[.slice a n cap] w fun e w' => e = .returned (.bool (badB l)) ∧ w' = w := by
  have HN := hide hn
  have HP := hide h
  have HK := hide hok
  obtain ⟨B, hB⟩ : ∃ B, B = badB l := ⟨_, rfl⟩
  rw [← hB]
  have HBB := hide hB
  clear hn h hok hB
  go_enter Try.func40, Try.ntmps40
  by_cases h0 : n = 0
  · have e0 : ((n : Int) == 0) = true := by simpa using h0
    go_wp2_with fail
    go_ret
    refine ⟨?_, rfl⟩
    rw [unhide HBB]; unfold badB; rw [decide_eq_true (.inl (by rw [← unhide HN]; exact h0))]; rfl
  have e0 : ((n : Int) == 0) = false := by simpa using h0
  by_cases h1 : 64 < n
  · have e1 : decide ((64 : Int) < (n : Int)) = true := decide_eq_true (by omega)
    go_wp2_with fail
    go_ret
    refine ⟨?_, rfl⟩
    rw [unhide HBB]; unfold badB; rw [decide_eq_true (.inr (.inl (by rw [← unhide HN]; exact h1)))]; rfl
  have e1 : decide ((64 : Int) < (n : Int)) = false := decide_eq_false (by omega)
  go_wp2_with fail
  go_loopw [3] (fun iv wr => ∃ i : Nat, iv = .int .i64 ((i : Nat) : Int) ∧ i ≤ n ∧ wr = w ∧ Hid (∀ k y, k < i → l[k]? = some y → wrongB y = false)) (fun iv _ => n - (intOf iv).toNat)
  case atStart => exact ⟨0, rfl, Nat.zero_le _, rfl, hide (fun k y hk => by omega)⟩
  case round =>
    obtain ⟨i, rfl, hi, hw, HB⟩ := hrel
    obtain rfl := hw.symm
    clear hw
    by_cases hin : i < n
    · have f1 : decide ((i : Int) < (n : Int)) = true := decide_eq_true (by omega)
      have g1 : (0 : Int) ≤ (i : Int) := by omega
      have g2 : (i : Int) < (n : Int) := by omega
      obtain ⟨x, hx⟩ : ∃ x, l[i]? = some x := ⟨_, List.getElem?_eq_getElem (by have := unhide HN; omega)⟩
      obtain ⟨b, off, rfl, y0, y1⟩ : ∃ b off, a = some ⟨b, off, none⟩ ∧ w.cell? ⟨b, off + i * 2, none⟩ = some (.int .i64 x.1) ∧ w.cell? ⟨b, off + i * 2 + 1, none⟩ = some (.string (bs x.2)) := by
        rcases unhide HP with h0 | ⟨pb, po, e, hlt, hc⟩
        · rw [h0] at hx; simp at hx
        · exact ⟨pb, po, e, hc i x hx⟩
      have hlx := bs_size x.2
      have hPOK : x.2.length ≤ maxLen := (unhide HK x (List.mem_of_getElem? hx)).2
      have HX := hide hx
      clear hx
      cases hwr : wrongB x with
      | true =>
        have HWR := hide hwr
        unfold wrongB at hwr
        have hwr2 : x.1 < 0 ∨ 4 ≤ x.1 ∨ 4096 < x.2.length := by simpa [or_assoc] using hwr
        clear hwr
        go_wp2_with fail
        all_goals first
          | (exfalso; omega)
          | (go_ret
             have hT : B = true := (unhide HBB).trans (decide_eq_true (.inr (.inr (List.any_eq_true.2 ⟨x, List.mem_of_getElem? (unhide HX), unhide HWR⟩))))
             exact ⟨congrArg (fun b => Ending.returned (Value.bool b)) hT.symm, rfl⟩)
      | false =>
        have HWR := hide hwr
        unfold wrongB at hwr
        simp only [Bool.or_eq_false_iff] at hwr
        obtain ⟨⟨q1, q2⟩, q3⟩ := hwr
        have q1' := of_decide_eq_false q1
        have q2' := of_decide_eq_false q2
        have q3' := of_decide_eq_false q3
        clear q1 q2 q3
        go_wp2_with fail
        all_goals first
          | (exfalso; omega)
          | (refine ⟨⟨i + 1, congrArg (Value.int .i64) (by omega), by omega, by first | rfl | trivial, hide fun k y hk hy => ?_⟩, by simp [intOf]; omega⟩
             by_cases e : k = i
             · subst e
               rw [unhide HX] at hy
               cases hy
               exact unhide HWR
             · exact unhide HB k y (by omega) hy)
    · obtain rfl : i = n := by omega
      have f1 : decide ((i : Int) < (i : Int)) = false := decide_eq_false (by omega)
      go_wp2_with fail
      go_ret
      refine ⟨?_, rfl⟩
      rw [unhide HBB]; unfold badB; rw [decide_eq_false]
      · rfl
      · have hN := unhide HN
        rintro (q | q | q)
        · omega
        · omega
        · obtain ⟨y, hy, hyw⟩ := List.any_eq_true.1 q
          obtain ⟨k, hk, e⟩ := List.getElem_of_mem hy
          have := unhide HB k y (by omega) (by rw [List.getElem?_eq_getElem hk, e])
          rw [this] at hyw; cases hyw
end Go.Proofs.Ytfebiemfmiahhab
