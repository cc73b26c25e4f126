/- IndexFunc and DeleteFunc of a list of texts. -/
import Derived.Test.YtjmnddcombepaaaPcf
import Derived.Lib.SliceRun
namespace Go.Proofs.Ytjmnddcombepaaa
open Go.ChangeShapes Go.WideShapes Go.ChangeAt Go.RowKit Go.Maps Go.Sort
set_option linter.unusedVariables false
set_option linter.unusedSimpArgs false
set_option maxRecDepth 100000
set_option maxHeartbeats 4000000

theorem OwnS.mono {w : World} {base base' : Nat} {v : Value} {l : List (List UInt8)} (h : OwnS w base v l) (hb : base' ≤ base) : OwnS w base' v l := by
  refine ⟨h.1, ?_⟩
  rcases h.2 with e | ⟨g, cap, cur, e, k, r⟩
  · exact .inl e
  · exact .inr ⟨g, cap, cur, e, Nat.le_trans hb k, r⟩
theorem eg45 : ∀ args w, (callFunc 45 args).run Try.prog w = .ok (.enter 45 args) w := enters_of Try.func45 (by kernel_rfl) rfl
theorem eg60 : ∀ args w, (callFunc 60 args).run Try.prog w = .ok (.enter 60 args) w := enters_of Try.func60 (by kernel_rfl) rfl
theorem pred60 (w : World) (x : Nat) (q : Bool) (hx : w.heap[x]? = some (.cells #[.bool q] 4 (0, 0))) : PredK w 60 #[.pointer (some ⟨x, 0, none⟩)] (fun k => k.2.2 == q) := by
  intro W kc kt kp hb
  have hc : (W.alloc (.cells #[.int .i64 kc, .string (bs kt), .bool kp] 77)).cell? ⟨x, 0, none⟩ = some (.bool q) := by
    rw [cell_blk ((((Below.refl _ _).alloc (Nat.le_refl _) _).block x (Nat.lt_of_lt_of_le (blk_lt hx) hb.size)).trans ((hb.block x (blk_lt hx)).trans hx))]; rfl
  have K : Hid (Below W.heap.size W (W.alloc (.cells #[.int .i64 kc, .string (bs kt), .bool kp] 77))) := hide ((Below.refl _ _).alloc (Nat.le_refl _) _)
  have h4 := Try.underlying4
  show Calls Try.prog 60 #[.agg #[.int .i64 kc, .string (bs kt), .bool kp], .pointer (some ⟨x, 0, none⟩)] W _
  clear hx hb
  go_enter Try.func60, Try.ntmps60
  go_wp2
  go_ret
  exact ⟨rfl, K⟩
theorem pred45 (w : World) (x y : Nat) (c : Int) (q : Bool) (hx : w.heap[x]? = some (.cells #[.int .i64 c] 3 (0, 0))) (hy : w.heap[y]? = some (.cells #[.bool q] 4 (0, 0))) : PredK w 45 #[.pointer (some ⟨x, 0, none⟩), .pointer (some ⟨y, 0, none⟩)] (fun k => decide (k.1 = c) && (k.2.2 == q)) := by
  intro W kc kt kp hb
  have hc : (W.alloc (.cells #[.int .i64 kc, .string (bs kt), .bool kp] 77)).cell? ⟨x, 0, none⟩ = some (.int .i64 c) := by
    rw [cell_blk ((((Below.refl _ _).alloc (Nat.le_refl _) _).block x (Nat.lt_of_lt_of_le (blk_lt hx) hb.size)).trans ((hb.block x (blk_lt hx)).trans hx))]; rfl
  have hc2 : (W.alloc (.cells #[.int .i64 kc, .string (bs kt), .bool kp] 77)).cell? ⟨y, 0, none⟩ = some (.bool q) := by
    rw [cell_blk ((((Below.refl _ _).alloc (Nat.le_refl _) _).block y (Nat.lt_of_lt_of_le (blk_lt hy) hb.size)).trans ((hb.block y (blk_lt hy)).trans hy))]; rfl
  have K : Hid (Below W.heap.size W (W.alloc (.cells #[.int .i64 kc, .string (bs kt), .bool kp] 77))) := hide ((Below.refl _ _).alloc (Nat.le_refl _) _)
  have h4 := Try.underlying4
  show Calls Try.prog 45 #[.agg #[.int .i64 kc, .string (bs kt), .bool kp], .pointer (some ⟨x, 0, none⟩), .pointer (some ⟨y, 0, none⟩)] W _
  clear hx hb hy
  by_cases e : kc = c
  · have f1 : (kc == c) = true := by simp [e]
    have f2 : decide (kc = c) = true := decide_eq_true e
    dsimp only
    rw [f2, Bool.true_and]
    clear e
    go_enter Try.func45, Try.ntmps45
    go_wp2
    go_ret
    exact ⟨rfl, K⟩
  · have f1 : (kc == c) = false := by simp [e]
    have f2 : decide (kc = c) = false := decide_eq_false e
    dsimp only
    rw [f2, Bool.false_and]
    clear e
    go_enter Try.func45, Try.ntmps45
    go_wp2
    go_ret
    exact ⟨rfl, K⟩
/-- the names of a connection, of one kind -/
def namesL (S : List Key) (c : Int) (q : Bool) : List (List UInt8) := textsL S (fun k => decide (k.1 = c) && (k.2.2 == q))
/-- the channels, or the patterns -/
def unlikeL (S : List Key) (q : Bool) : List (List UInt8) := textsL S (fun k => k.2.2 == q)
/-- a list of texts is handed out -/
def SEnd (w : World) (l : List (List UInt8)) (e : Ending) (w' : World) : Prop := ∃ (a : Option Addr) (n cap : Nat), e = .returned (.slice a n cap) ∧ Hid (OwnS w' w.heap.size (.slice a n cap) l ∧ Below w.heap.size w w' ∧ n = l.length)
theorem unlike_any (w : World) (p b : Nat) (D : Dt) (S : List Key) (q : Bool) (h : PostAt w p b D S) (hS : S.length ≤ 1099511627776) (hl : ∀ k ∈ S, k.2.1.length ≤ 281474976710656) :
    Calls Try.prog 37 #[.pointer (some ⟨p, 0, none⟩), .bool q] w (SEnd w (unlikeL S q)) := by
  have b1 : Below w.heap.size w (w.alloc (.cells #[.bool q] 4)) := (Below.refl _ _).alloc (Nat.le_refl _) _
  have CT : Hid (Calls Try.prog 44 #[.pointer (some ⟨p, 0, none⟩), .func (.func 60) #[] #[.pointer (some ⟨w.heap.size, 0, none⟩)]] (w.alloc (.cells #[.bool q] 4)) (SEnd w (unlikeL S q))) := hide ((texts_any _ p b D S 60 _ _ (h.below b1) hS hl eg60 (pred60 _ w.heap.size q (heap_alloc_new _ _))).mono (fun e w' ⟨a, n, cap, h1, h2⟩ => ⟨a, n, cap, h1, hide ⟨(unhide h2).1.mono (by simp; omega), b1.trans ((unhide h2).2.1.mono b1.size), (unhide h2).2.2⟩⟩))
  unfold SEnd at CT
  clear h hl b1
  go_enter Try.func37, Try.ntmps37
  go_wp2_with (go_at_call 44; with_reducible refine (unhide CT).mono ?_; rintro e w2 ⟨a, n, cap, rfl, k2⟩)
  go_ret
  exact ⟨a, n, cap, rfl, k2⟩
theorem names_any (w : World) (p b : Nat) (D : Dt) (S : List Key) (c : Int) (q : Bool) (h : PostAt w p b D S) (hS : S.length ≤ 1099511627776) (hl : ∀ k ∈ S, k.2.1.length ≤ 281474976710656) :
    Calls Try.prog 25 #[.pointer (some ⟨p, 0, none⟩), .int .i64 c, .bool q] w (SEnd w (namesL S c q)) := by
  have b1 : Below w.heap.size w ((w.alloc (.cells #[.int .i64 c] 3)).alloc (.cells #[.bool q] 4)) := ((Below.refl _ _).alloc (Nat.le_refl _) _).alloc (by simp) _
  have e2 := heap_alloc_new (w.alloc (.cells #[.int .i64 c] 3)) (.cells #[.bool q] 4)
  rw [World.size_alloc] at e2
  have CT : Hid (Calls Try.prog 44 #[.pointer (some ⟨p, 0, none⟩), .func (.func 45) #[] #[.pointer (some ⟨w.heap.size, 0, none⟩), .pointer (some ⟨w.heap.size + 1, 0, none⟩)]] ((w.alloc (.cells #[.int .i64 c] 3)).alloc (.cells #[.bool q] 4)) (SEnd w (namesL S c q))) := hide ((texts_any _ p b D S 45 _ _ (h.below b1) hS hl eg45 (pred45 _ w.heap.size (w.heap.size + 1) c q ((heap_alloc_old _ _ (by simp)).trans (heap_alloc_new _ _)) e2)).mono (fun e w' ⟨a, n, cap, h1, h2⟩ => ⟨a, n, cap, h1, hide ⟨(unhide h2).1.mono (by simp; omega), b1.trans ((unhide h2).2.1.mono b1.size), (unhide h2).2.2⟩⟩))
  unfold SEnd at CT
  clear h hl b1 e2
  go_enter Try.func25, Try.ntmps25
  go_wp2_with (go_at_call 44; with_reducible refine (unhide CT).mono ?_; rintro e w2 ⟨a, n, cap, rfl, k2⟩)
  go_ret
  exact ⟨a, n, cap, rfl, k2⟩
theorem patterns_any (w : World) (p b : Nat) (D : Dt) (S : List Key) (h : PostAt w p b D S) (hS : S.length ≤ 1099511627776) (hl : ∀ k ∈ S, k.2.1.length ≤ 281474976710656) :
    Calls Try.prog 43 #[.pointer (some ⟨p, 0, none⟩)] w fun e w' => e = .returned (.int .i64 ((unlikeL S true).length : Nat)) ∧ Hid (Below w.heap.size w w') := by
  have CU := hide (unlike_any w p b D S true h hS hl)
  unfold SEnd at CU
  clear h hl
  go_enter Try.func43, Try.ntmps43
  go_wp2_with (go_at_call 37; with_reducible refine (unhide CU).mono ?_; rintro e w2 ⟨a, n, cap, rfl, k2⟩)
  go_ret
  exact ⟨by rw [← (unhide k2).2.2]; rfl, hide (unhide k2).2.1⟩
end Go.Proofs.Ytjmnddcombepaaa
namespace Go.Proofs.Ytjmnddcombepaaa
open Go.ChangeShapes Go.WideShapes Go.ChangeAt Go.RowKit Go.Maps Go.Sort
set_option linter.unusedVariables false
set_option linter.unusedSimpArgs false
set_option maxRecDepth 100000
set_option maxHeartbeats 4000000

/-- a closure that tells of a text whether it is to go -/
def PredS (w : World) (base g : Nat) (lb : Array Value) (l : List (List UInt8)) (pr : List UInt8 → Bool) : Prop := ∀ (W : World) (T : List UInt8), T ∈ l → Below base w W → base ≤ W.heap.size → Calls Try.prog g (#[.string (bs T)] ++ lb) W fun e w' => e = .returned (.bool (pr T)) ∧ Hid (Below W.heap.size W w')
/-- the first text that is to go -/
def IdxIs (l : List (List UInt8)) (pr : List UInt8 → Bool) (i : Int) : Prop := (i = -1 ∧ ∀ T ∈ l, pr T = false) ∨ ∃ k : Nat, k < l.length ∧ i = (k : Int) ∧ pr (l.getD k []) = true ∧ ∀ j, j < k → pr (l.getD j []) = false
theorem getD_mem {l : List (List UInt8)} {i : Nat} (h : i < l.length) : l.getD i [] ∈ l := by
  rw [List.getD_eq_getElem?_getD, List.getElem?_eq_getElem h]
  exact List.getElem_mem h
theorem idx_own (W : World) (base g : Nat) (lb : Array Value) (a : Option Addr) (n cap : Nat) (l : List (List UInt8)) (pr : List UInt8 → Bool) (h : OwnS W base (.slice a n cap) l) (hn : n = l.length) (hl : l.length < 4611686018427387904) (hb : base ≤ W.heap.size) (eg : ∀ args w, (callFunc g args).run Try.prog w = .ok (.enter g args) w) (hp : PredS W base g lb l pr) :
    Calls Try.prog 59 #[.slice a n cap, .func (.func g) #[] lb] W fun e w' => ∃ i, e = .returned (.int .i64 i) ∧ Hid (IdxIs l pr i ∧ Below W.heap.size W w') := by
  have HO := hide h
  have HP := hide hp
  have HN := hide hn
  have hnl : n < 4611686018427387904 := by omega
  clear h hp hn hl
  go_enter Try.func59, Try.ntmps59
  go_wp2
  go_loopw [8] (fun iv wr => ∃ i : Nat, iv = .int .i64 (i : Nat) ∧ i ≤ n ∧ Hid (Below W.heap.size W wr ∧ ∀ j, j < i → pr (l.getD j []) = false)) (fun iv _ => n - (intOf iv).toNat)
  case atStart => exact ⟨0, rfl, Nat.zero_le _, hide ⟨Below.refl _ _, fun j hj => absurd hj (Nat.not_lt_zero _)⟩⟩
  case round =>
    obtain ⟨i, rfl, hi, HI⟩ := hrel
    by_cases hlt : i < n
    · have f1 : decide ((i : Int) < (n : Int)) = true := decide_eq_true (by omega)
      have g1 : (0 : Int) ≤ (i : Int) := by omega
      have g2 : (i : Int) < (n : Int) := by omega
      obtain ⟨gb, rfl, -, hgl, hc⟩ := (unhide HO).cell (i := i) (by rw [← unhide HN]; exact hlt)
      have hc2 : wr.cell? ⟨gb, i, none⟩ = some (.string (bs (l.getD i []))) := ((unhide HI).1.cell (p := ⟨gb, i, none⟩) hgl).trans hc
      have CG : Hid (Calls Try.prog g (#[.string (bs (l.getD i []))] ++ lb) wr fun e w' => e = .returned (.bool (pr (l.getD i []))) ∧ Hid (Below W.heap.size W w')) := hide ((unhide HP wr _ (getD_mem (by rw [← unhide HN]; exact hlt)) ((unhide HI).1.mono hb) (Nat.le_trans hb (unhide HI).1.size)).mono (fun e w' ⟨h1, h2⟩ => ⟨h1, hide ((unhide HI).1.trans ((unhide h2).mono (unhide HI).1.size))⟩))
      generalize hT : l.getD i [] = T at hc2 CG
      have HT := hide hT
      clear hc hT
      cases hq : pr T with
      | true =>
        rw [hq] at CG
        go_wp2_with (go_at_fn g; with_reducible refine (unhide CG).mono ?_; rintro e w2 ⟨rfl, k2⟩)
        go_ret
        exact ⟨i, rfl, hide ⟨.inr ⟨i, by rw [← unhide HN]; exact hlt, rfl, by rw [unhide HT]; exact hq, (unhide HI).2⟩, unhide k2⟩⟩
      | false =>
        rw [hq] at CG
        go_wp2_with (go_at_fn g; with_reducible refine (unhide CG).mono ?_; rintro e w2 ⟨rfl, k2⟩)
        all_goals go_roundw
        case rel => exact ⟨i + 1, by go_num, by omega, hide ⟨unhide k2, fun j hj => by
          by_cases e : j = i
          · rw [e, unhide HT]; exact hq
          · exact (unhide HI).2 j (by omega)⟩⟩
        case measure => simp [intOf]; omega
    · obtain rfl : i = n := by omega
      have f1 : decide ((i : Int) < (i : Int)) = false := decide_eq_false (by omega)
      go_wp2
      go_ret
      refine ⟨-1, rfl, hide ⟨.inl ⟨rfl, fun T hT => ?_⟩, (unhide HI).1⟩⟩
      obtain ⟨j, hj, rfl⟩ := List.mem_iff_getElem.1 hT
      have := (unhide HI).2 j (by rw [unhide HN]; exact hj)
      rw [List.getD_eq_getElem?_getD, List.getElem?_eq_getElem hj] at this
      exact this
theorem sc_block (w : World) (g k : Nat) (u : Value) (cur : Array Value) (e : TypeId) (fr : Nat × Nat) (hg : w.heap[g]? = some (.cells cur e fr)) : (w.setCell ⟨g, k, none⟩ u).heap[g]? = some (.cells (cur.setIfInBounds k u) e fr) := by
  simp only [World.setCell, Array.getElem?_modify, if_true, hg, Option.map_some]
  rfl
theorem sc_else (w : World) (g k j : Nat) (u : Value) (h : j ≠ g) : (w.setCell ⟨g, k, none⟩ u).heap[j]? = w.heap[j]? := by
  simp [World.setCell, Array.getElem?_modify, Ne.symm h]
theorem sc_below {base g : Nat} {W w : World} (k : Nat) (u : Value) (h : Below base W w) (hg : base ≤ g) : Below base W (w.setCell ⟨g, k, none⟩ u) :=
  ⟨h.os, h.tape, h.output, by simpa using h.size, fun i hi => (sc_else w g k i u (by omega)).trans (h.block i hi)⟩
/-- many cells of one block are set, from o on -/
theorem scs_block (g : Nat) (e : TypeId) : ∀ (xs : List Value) (w : World) (o : Nat) (cur : Array Value), w.heap[g]? = some (.cells cur e (0, 0)) → ∃ cur', (w.setCells g o xs).heap[g]? = some (.cells cur' e (0, 0)) ∧ cur'.size = cur.size ∧ ∀ i, i < o → cur'[i]? = cur[i]?
  | [], w, o, cur, h => ⟨cur, h, rfl, fun _ _ => rfl⟩
  | x :: xs, w, o, cur, h => by
    obtain ⟨cur', h1, h2, h3⟩ := scs_block g e xs (w.setCell ⟨g, o, none⟩ x) (o + 1) _ (sc_block w g o x cur e _ h)
    refine ⟨cur', h1, by rw [h2]; simp, fun i hi => ?_⟩
    rw [h3 i (by omega), Array.getElem?_setIfInBounds, if_neg (by omega)]
theorem scs_below {base g : Nat} (hg : base ≤ g) {W : World} : ∀ (xs : List Value) (w : World) (o : Nat), Below base W w → Below base W (w.setCells g o xs)
  | [], w, o, h => h
  | x :: xs, w, o, h => scs_below hg xs _ _ (sc_below o x h hg)
/-- the loop of DeleteFunc: the first i texts are those that stay of the first j; from j on all is as it was -/
structure DelAt (W wr : World) (base g : Nat) (cap : Nat) (l : List (List UInt8)) (pr : List UInt8 → Bool) (i j : Nat) (c : List (List UInt8)) : Prop where
  bel : Below base W wr
  sz : W.heap.size ≤ wr.heap.size
  own : OwnS wr base (.slice (some ⟨g, 0, none⟩) l.length cap) c
  len : c.length = l.length
  fst : c.take i = (l.take j).filter (fun T => !pr T)
  rest : c.drop j = l.drop j
  le : i < j
theorem OwnS.put {w : World} {base g n cap : Nat} {c : List (List UInt8)} (h : OwnS w base (.slice (some ⟨g, 0, none⟩) n cap) c) (i : Nat) (T : List UInt8) (hi : i < c.length) : OwnS (w.setCell ⟨g, i, none⟩ (.string (bs T))) base (.slice (some ⟨g, 0, none⟩) n cap) (c.set i T) := by
  rcases h.2 with ⟨e, _⟩ | ⟨g', cap', cur, e, k1, k2, k3, k4, k5, k6⟩
  · cases e
  · cases e
    refine ⟨by simp, .inr ⟨g, cap, _, by simp, k1, sc_block w g i _ cur 9 _ k2, by simpa using k3, k4, by simpa using k5, ?_⟩⟩
    rw [Nat.mul_one, List.length_set] at *
    rw [Array.toList_setIfInBounds, List.take_set, k6]
    rw [List.map_set]
    rfl
theorem OwnS.froz {w : World} {base g n cap : Nat} {c : List (List UInt8)} (h : OwnS w base (.slice (some ⟨g, 0, none⟩) n cap) c) (k : Nat) : w.frozen? ⟨g, k, none⟩ = false := by
  rcases h.2 with ⟨e, _⟩ | ⟨g', cap', cur, e, k1, k2, k3, k4, k5, k6⟩
  · cases e
  · cases e
    simp [World.frozen?, k2]
theorem DelAt.froz {W wr : World} {base g cap : Nat} {l c : List (List UInt8)} {pr : List UInt8 → Bool} {i j : Nat} (h : DelAt W wr base g cap l pr i j c) (k : Nat) : wr.frozen? ⟨g, k, none⟩ = false := OwnS.froz h.own k
theorem DelAt.cell {W wr : World} {base g cap : Nat} {l c : List (List UInt8)} {pr : List UInt8 → Bool} {i j : Nat} (h : DelAt W wr base g cap l pr i j c) (hj : j < l.length) : wr.cell? ⟨g, j, none⟩ = some (.string (bs (l.getD j []))) := by
  obtain ⟨g', e, _, _, hc⟩ := h.own.cell (i := j) (by rw [h.len]; exact hj)
  cases e
  rw [hc]
  have e1 : c.getD j [] = l.getD j [] := by
    have e2 : (c.drop j)[0]? = (l.drop j)[0]? := by rw [h.rest]
    rw [List.getElem?_drop, List.getElem?_drop] at e2
    rw [List.getD_eq_getElem?_getD, List.getD_eq_getElem?_getD]
    simp only [Nat.add_zero] at e2
    rw [e2]
  rw [e1]
theorem DelAt.cellSome {W wr : World} {base g cap : Nat} {l c : List (List UInt8)} {pr : List UInt8 → Bool} {i j : Nat} (h : DelAt W wr base g cap l pr i j c) (k : Nat) (hk : k < l.length) : ∃ u, wr.cell? ⟨g, k, none⟩ = some u := by
  obtain ⟨g', e, _, _, hc⟩ := h.own.cell (i := k) (by rw [h.len]; exact hk)
  cases e
  exact ⟨_, hc⟩
theorem take_snoc {l : List (List UInt8)} {j : Nat} (hj : j < l.length) : l.take (j + 1) = l.take j ++ [l.getD j []] := by
  rw [List.take_add_one, List.getElem?_eq_getElem hj, List.getD_eq_getElem?_getD, List.getElem?_eq_getElem hj]
  rfl
theorem DelAt.pass {W wr w' : World} {base g cap : Nat} {l c : List (List UInt8)} {pr : List UInt8 → Bool} {i j : Nat} (h : DelAt W wr base g cap l pr i j c) (hb : Below wr.heap.size wr w') (hB : base ≤ wr.heap.size) : DelAt W w' base g cap l pr i j c :=
  ⟨h.bel.trans (hb.mono hB), Nat.le_trans h.sz hb.size, h.own.below hb, h.len, h.fst, h.rest, h.le⟩
theorem DelAt.drop {W wr : World} {base g cap : Nat} {l c : List (List UInt8)} {pr : List UInt8 → Bool} {i j : Nat} (h : DelAt W wr base g cap l pr i j c) (hj : j < l.length) (hp : pr (l.getD j []) = true) : DelAt W wr base g cap l pr i (j + 1) c := by
  refine ⟨h.bel, h.sz, h.own, h.len, ?_, ?_, Nat.lt_succ_of_lt h.le⟩
  · rw [take_snoc hj, List.filter_append, h.fst]
    simp only [List.filter_cons, List.filter_nil, hp, Bool.not_true, Bool.false_eq_true, if_false, List.append_nil]
  · rw [← List.drop_drop, ← List.drop_drop, h.rest]
theorem DelAt.keep {W wr : World} {base g cap : Nat} {l c : List (List UInt8)} {pr : List UInt8 → Bool} {i j : Nat} (h : DelAt W wr base g cap l pr i j c) (hj : j < l.length) (hp : pr (l.getD j []) = false) (hg : base ≤ g) : DelAt W (wr.setCell ⟨g, i, none⟩ (.string (bs (l.getD j [])))) base g cap l pr (i + 1) (j + 1) (c.set i (l.getD j [])) := by
  have hi := h.le
  have hlen := h.len
  refine ⟨sc_below i _ h.bel hg, by simpa using h.sz, h.own.put i _ (by omega), by simpa using h.len, ?_, ?_, Nat.succ_lt_succ h.le⟩
  · rw [take_snoc hj, List.filter_append, ← h.fst, take_snoc (by simp; omega)]
    rw [List.take_set_of_le (Nat.le_refl i)]
    have e1 : (c.set i (l.getD j [])).getD i [] = l.getD j [] := by
      rw [List.getD_eq_getElem?_getD, List.getElem?_set_self (by omega)]
      rfl
    rw [e1]
    simp only [List.filter_cons, List.filter_nil, hp, Bool.not_false, if_true]
  · rw [List.drop_set_of_lt (by omega), ← List.drop_drop, ← List.drop_drop, h.rest]
end Go.Proofs.Ytjmnddcombepaaa
