/- IndexFunc and DeleteFunc of a list of texts. -/
import Derived.Test.YtjmnddcombepaaaPcg
import Derived.Lib.SliceRun
namespace Go.Proofs.Ytjmnddcombepaaa
open Go.ChangeShapes Go.WideShapes Go.ChangeAt Go.RowKit Go.Maps Go.Sort
set_option linter.unusedVariables false
set_option linter.unusedSimpArgs false
set_option maxRecDepth 100000
set_option maxHeartbeats 4000000

/-- a closure that tells of a text whether it is to go -/
def PredS (w : World) (base g : Nat) (lb : Array Value) (l : List (List UInt8)) (pr : List UInt8 → Bool) : Prop := ∀ (W : World) (T : List UInt8), T ∈ l → Below base w W → base ≤ W.heap.size → Calls Try.prog g (#[.string (bs T)] ++ lb) W fun e w' => e = .returned (.bool (pr T)) ∧ Hid (Below W.heap.size W w')
/-- the first text that is to go -/
def IdxIs (l : List (List UInt8)) (pr : List UInt8 → Bool) (i : Int) : Prop := (i = -1 ∧ ∀ T ∈ l, pr T = false) ∨ ∃ k : Nat, k < l.length ∧ i = (k : Int) ∧ pr (l.getD k []) = true ∧ ∀ j, j < k → pr (l.getD j []) = false
theorem getD_mem {l : List (List UInt8)} {i : Nat} (h : i < l.length) : l.getD i [] ∈ l := by
  rw [List.getD_eq_getElem?_getD, List.getElem?_eq_getElem h]
  exact List.getElem_mem h
theorem idx_own (W : World) (base g : Nat) (lb : Array Value) (a : Option Addr) (n cap : Nat) (l : List (List UInt8)) (pr : List UInt8 → Bool) (h : OwnS W base (.slice a n cap) l) (hn : n = l.length) (hl : l.length < 4611686018427387904) (hb : base ≤ W.heap.size) (eg : ∀ args w, (callFunc g args).run Try.prog w = .ok (.enter g args) w) (hp : PredS W base g lb l pr) :
    Calls Try.prog 59 #[.slice a n cap, .func (.func g) #[] lb] W fun e w' => ∃ i, e = .returned (.int .i64 i) ∧ Hid (IdxIs l pr i ∧ Below W.heap.size W w') := by
  have HO := hide h
  have HP := hide hp
  have HN := hide hn
  have hnl : n < 4611686018427387904 := by omega
  clear h hp hn hl
  go_enter Try.func59, Try.ntmps59
  go_wp2
  go_loopw [8] (fun iv wr => ∃ i : Nat, iv = .int .i64 (i : Nat) ∧ i ≤ n ∧ Hid (Below W.heap.size W wr ∧ ∀ j, j < i → pr (l.getD j []) = false)) (fun iv _ => n - (intOf iv).toNat)
  case atStart => exact ⟨0, rfl, Nat.zero_le _, hide ⟨Below.refl _ _, fun j hj => absurd hj (Nat.not_lt_zero _)⟩⟩
  case round =>
    obtain ⟨i, rfl, hi, HI⟩ := hrel
    by_cases hlt : i < n
    · have f1 : decide ((i : Int) < (n : Int)) = true := decide_eq_true (by omega)
      have g1 : (0 : Int) ≤ (i : Int) := by omega
      have g2 : (i : Int) < (n : Int) := by omega
      obtain ⟨gb, rfl, -, hgl, hc⟩ := (unhide HO).cell (i := i) (by rw [← unhide HN]; exact hlt)
      have hc2 : wr.cell? ⟨gb, i, none⟩ = some (.string (bs (l.getD i []))) := ((unhide HI).1.cell (p := ⟨gb, i, none⟩) hgl).trans hc
      have CG : Hid (Calls Try.prog g (#[.string (bs (l.getD i []))] ++ lb) wr fun e w' => e = .returned (.bool (pr (l.getD i []))) ∧ Hid (Below W.heap.size W w')) := hide ((unhide HP wr _ (getD_mem (by rw [← unhide HN]; exact hlt)) ((unhide HI).1.mono hb) (Nat.le_trans hb (unhide HI).1.size)).mono (fun e w' ⟨h1, h2⟩ => ⟨h1, hide ((unhide HI).1.trans ((unhide h2).mono (unhide HI).1.size))⟩))
      generalize hT : l.getD i [] = T at hc2 CG
      have HT := hide hT
      clear hc hT
      cases hq : pr T with
      | true =>
        rw [hq] at CG
        go_wp2_with (go_at_fn g; with_reducible refine (unhide CG).mono ?_; rintro e w2 ⟨rfl, k2⟩)
        go_ret
        exact ⟨i, rfl, hide ⟨.inr ⟨i, by rw [← unhide HN]; exact hlt, rfl, by rw [unhide HT]; exact hq, (unhide HI).2⟩, unhide k2⟩⟩
      | false =>
        rw [hq] at CG
        go_wp2_with (go_at_fn g; with_reducible refine (unhide CG).mono ?_; rintro e w2 ⟨rfl, k2⟩)
        all_goals go_roundw
        case rel => exact ⟨i + 1, by go_num, by omega, hide ⟨unhide k2, fun j hj => by
          by_cases e : j = i
          · rw [e, unhide HT]; exact hq
          · exact (unhide HI).2 j (by omega)⟩⟩
        case measure => simp [intOf]; omega
    · obtain rfl : i = n := by omega
      have f1 : decide ((i : Int) < (i : Int)) = false := decide_eq_false (by omega)
      go_wp2
      go_ret
      refine ⟨-1, rfl, hide ⟨.inl ⟨rfl, fun T hT => ?_⟩, (unhide HI).1⟩⟩
      obtain ⟨j, hj, rfl⟩ := List.mem_iff_getElem.1 hT
      have := (unhide HI).2 j (by rw [unhide HN]; exact hj)
      rw [List.getD_eq_getElem?_getD, List.getElem?_eq_getElem hj] at this
      exact this
theorem sc_block (w : World) (g k : Nat) (u : Value) (cur : Array Value) (e : TypeId) (fr : Nat × Nat) (hg : w.heap[g]? = some (.cells cur e fr)) : (w.setCell ⟨g, k, none⟩ u).heap[g]? = some (.cells (cur.setIfInBounds k u) e fr) := by
  simp only [World.setCell, Array.getElem?_modify, if_true, hg, Option.map_some]
  rfl
theorem sc_else (w : World) (g k j : Nat) (u : Value) (h : j ≠ g) : (w.setCell ⟨g, k, none⟩ u).heap[j]? = w.heap[j]? := by
  simp [World.setCell, Array.getElem?_modify, Ne.symm h]
theorem sc_below {base g : Nat} {W w : World} (k : Nat) (u : Value) (h : Below base W w) (hg : base ≤ g) : Below base W (w.setCell ⟨g, k, none⟩ u) :=
  ⟨h.os, h.tape, h.output, by simpa using h.size, fun i hi => (sc_else w g k i u (by omega)).trans (h.block i hi)⟩
/-- many cells of one block are set, from o on -/
theorem scs_block (g : Nat) (e : TypeId) : ∀ (xs : List Value) (w : World) (o : Nat) (cur : Array Value), w.heap[g]? = some (.cells cur e (0, 0)) → ∃ cur', (w.setCells g o xs).heap[g]? = some (.cells cur' e (0, 0)) ∧ cur'.size = cur.size ∧ ∀ i, i < o → cur'[i]? = cur[i]?
  | [], w, o, cur, h => ⟨cur, h, rfl, fun _ _ => rfl⟩
  | x :: xs, w, o, cur, h => by
    obtain ⟨cur', h1, h2, h3⟩ := scs_block g e xs (w.setCell ⟨g, o, none⟩ x) (o + 1) _ (sc_block w g o x cur e _ h)
    refine ⟨cur', h1, by rw [h2]; simp, fun i hi => ?_⟩
    rw [h3 i (by omega), Array.getElem?_setIfInBounds, if_neg (by omega)]
theorem scs_below {base g : Nat} (hg : base ≤ g) {W : World} : ∀ (xs : List Value) (w : World) (o : Nat), Below base W w → Below base W (w.setCells g o xs)
  | [], w, o, h => h
  | x :: xs, w, o, h => scs_below hg xs _ _ (sc_below o x h hg)
/-- the loop of DeleteFunc: the first i texts are those that stay of the first j; from j on all is as it was -/
structure DelAt (W wr : World) (base g : Nat) (cap : Nat) (l : List (List UInt8)) (pr : List UInt8 → Bool) (i j : Nat) (c : List (List UInt8)) : Prop where
  bel : Below base W wr
  sz : W.heap.size ≤ wr.heap.size
  own : OwnS wr base (.slice (some ⟨g, 0, none⟩) l.length cap) c
  len : c.length = l.length
  fst : c.take i = (l.take j).filter (fun T => !pr T)
  rest : c.drop j = l.drop j
  le : i < j
theorem OwnS.put {w : World} {base g n cap : Nat} {c : List (List UInt8)} (h : OwnS w base (.slice (some ⟨g, 0, none⟩) n cap) c) (i : Nat) (T : List UInt8) (hi : i < c.length) : OwnS (w.setCell ⟨g, i, none⟩ (.string (bs T))) base (.slice (some ⟨g, 0, none⟩) n cap) (c.set i T) := by
  rcases h.2 with ⟨e, _⟩ | ⟨g', cap', cur, e, k1, k2, k3, k4, k5, k6⟩
  · cases e
  · cases e
    refine ⟨by simp, .inr ⟨g, cap, _, by simp, k1, sc_block w g i _ cur 9 _ k2, by simpa using k3, k4, by simpa using k5, ?_⟩⟩
    rw [Nat.mul_one, List.length_set] at *
    rw [Array.toList_setIfInBounds, List.take_set, k6]
    rw [List.map_set]
    rfl
theorem OwnS.froz {w : World} {base g n cap : Nat} {c : List (List UInt8)} (h : OwnS w base (.slice (some ⟨g, 0, none⟩) n cap) c) (k : Nat) : w.frozen? ⟨g, k, none⟩ = false := by
  rcases h.2 with ⟨e, _⟩ | ⟨g', cap', cur, e, k1, k2, k3, k4, k5, k6⟩
  · cases e
  · cases e
    simp [World.frozen?, k2]
theorem DelAt.froz {W wr : World} {base g cap : Nat} {l c : List (List UInt8)} {pr : List UInt8 → Bool} {i j : Nat} (h : DelAt W wr base g cap l pr i j c) (k : Nat) : wr.frozen? ⟨g, k, none⟩ = false := OwnS.froz h.own k
theorem DelAt.cell {W wr : World} {base g cap : Nat} {l c : List (List UInt8)} {pr : List UInt8 → Bool} {i j : Nat} (h : DelAt W wr base g cap l pr i j c) (hj : j < l.length) : wr.cell? ⟨g, j, none⟩ = some (.string (bs (l.getD j []))) := by
  obtain ⟨g', e, _, _, hc⟩ := h.own.cell (i := j) (by rw [h.len]; exact hj)
  cases e
  rw [hc]
  have e1 : c.getD j [] = l.getD j [] := by
    have e2 : (c.drop j)[0]? = (l.drop j)[0]? := by rw [h.rest]
    rw [List.getElem?_drop, List.getElem?_drop] at e2
    rw [List.getD_eq_getElem?_getD, List.getD_eq_getElem?_getD]
    simp only [Nat.add_zero] at e2
    rw [e2]
  rw [e1]
theorem DelAt.cellSome {W wr : World} {base g cap : Nat} {l c : List (List UInt8)} {pr : List UInt8 → Bool} {i j : Nat} (h : DelAt W wr base g cap l pr i j c) (k : Nat) (hk : k < l.length) : ∃ u, wr.cell? ⟨g, k, none⟩ = some u := by
  obtain ⟨g', e, _, _, hc⟩ := h.own.cell (i := k) (by rw [h.len]; exact hk)
  cases e
  exact ⟨_, hc⟩
theorem take_snoc {l : List (List UInt8)} {j : Nat} (hj : j < l.length) : l.take (j + 1) = l.take j ++ [l.getD j []] := by
  rw [List.take_add_one, List.getElem?_eq_getElem hj, List.getD_eq_getElem?_getD, List.getElem?_eq_getElem hj]
  rfl
theorem DelAt.pass {W wr w' : World} {base g cap : Nat} {l c : List (List UInt8)} {pr : List UInt8 → Bool} {i j : Nat} (h : DelAt W wr base g cap l pr i j c) (hb : Below wr.heap.size wr w') (hB : base ≤ wr.heap.size) : DelAt W w' base g cap l pr i j c :=
  ⟨h.bel.trans (hb.mono hB), Nat.le_trans h.sz hb.size, h.own.below hb, h.len, h.fst, h.rest, h.le⟩
theorem DelAt.drop {W wr : World} {base g cap : Nat} {l c : List (List UInt8)} {pr : List UInt8 → Bool} {i j : Nat} (h : DelAt W wr base g cap l pr i j c) (hj : j < l.length) (hp : pr (l.getD j []) = true) : DelAt W wr base g cap l pr i (j + 1) c := by
  refine ⟨h.bel, h.sz, h.own, h.len, ?_, ?_, Nat.lt_succ_of_lt h.le⟩
  · rw [take_snoc hj, List.filter_append, h.fst]
    simp only [List.filter_cons, List.filter_nil, hp, Bool.not_true, Bool.false_eq_true, if_false, List.append_nil]
  · rw [← List.drop_drop, ← List.drop_drop, h.rest]
theorem DelAt.keep {W wr : World} {base g cap : Nat} {l c : List (List UInt8)} {pr : List UInt8 → Bool} {i j : Nat} (h : DelAt W wr base g cap l pr i j c) (hj : j < l.length) (hp : pr (l.getD j []) = false) (hg : base ≤ g) : DelAt W (wr.setCell ⟨g, i, none⟩ (.string (bs (l.getD j [])))) base g cap l pr (i + 1) (j + 1) (c.set i (l.getD j [])) := by
  have hi := h.le
  have hlen := h.len
  refine ⟨sc_below i _ h.bel hg, by simpa using h.sz, h.own.put i _ (by omega), by simpa using h.len, ?_, ?_, Nat.succ_lt_succ h.le⟩
  · rw [take_snoc hj, List.filter_append, ← h.fst, take_snoc (by simp; omega)]
    rw [List.take_set_of_le (Nat.le_refl i)]
    have e1 : (c.set i (l.getD j [])).getD i [] = l.getD j [] := by
      rw [List.getD_eq_getElem?_getD, List.getElem?_set_self (by omega)]
      rfl
    rw [e1]
    simp only [List.filter_cons, List.filter_nil, hp, Bool.not_false, if_true]
  · rw [List.drop_set_of_lt (by omega), ← List.drop_drop, ← List.drop_drop, h.rest]
end Go.Proofs.Ytjmnddcombepaaa
