/- fill, fillInts: the walks. -/
import Derived.Test.YtfebiemfmiahhabRd
import Derived.Deep.MidRow
namespace Go.Proofs.Ytfebiemfmiahhab
open Go.ChangeShapes Go.WideShapes Go.ChangeAt Go.RowKit
set_option linter.unusedVariables false
set_option linter.unusedSimpArgs false
set_option maxRecDepth 100000
set_option maxHeartbeats 8000000
/-- so many marks laid -/
def fillF (c : List Value) (f : Nat → Value) (i : Nat) : Nat → Value := fun k => if k < i * c.length then mkF c k else f k
theorem fill_end {w : World} {e : TypeId} {s : Nat} {v : Value} {n : Nat} {c : List Value} {f : Nat → Value} (h : Rws w e s v n (fillF c f n)) (hc : c.length = s) : Rws w e s v n (mkF c) :=
  h.congr fun j hj => by unfold fillF; rw [if_pos (by rw [hc]; exact hj)]
theorem fill_begin {w : World} {e : TypeId} {s : Nat} {v : Value} {n : Nat} {c : List Value} {f : Nat → Value} (h : Rws w e s v n f) : Rws w e s v n (fillF c f 0) :=
  h.congr fun j hj => by unfold fillF; rw [if_neg (by omega)]
theorem set_heap1 (w : World) (g o : Nat) (cur : Array Value) (t : TypeId) (x : Value) (hg : w.heap[g]? = some (.cells cur t (0, 0))) : (w.setCell ⟨g, o, none⟩ x).heap[g]? = some (.cells (cur.setIfInBounds o x) t (0, 0)) ∧ Fl [⟨.slice (some ⟨g, 0, none⟩) 0 0, 0, []⟩] w (w.setCell ⟨g, o, none⟩ x) := by
  refine ⟨heap_setCell_same w g o cur t x hg, rfl, rfl, rfl, by simp [World.setCell], fun b hb hn => Below.heap_setCell w ⟨g, o, none⟩ x b (fun e => ?_)⟩
  exact hn _ (List.mem_singleton.2 rfl) (by simp [Value.ownBlock]; exact e.symm)
theorem fl_own {L M : List Ent} {w w' : World} (h : Fl L w w') (hs : ∀ x ∈ L, ∀ g, x.v.ownBlock = some g → ∃ y ∈ M, y.v.ownBlock = some g) : Fl M w w' :=
  ⟨h.os, h.tape, h.output, h.size, fun b hb hn => h.block b hb (fun x hx e => by
    obtain ⟨y, hy, e2⟩ := hs x hx b e
    exact hn y hy e2)⟩
theorem put_cells {c : List Value} {f : Nat → Value} {n i cap : Nat} {s : Nat} {cur cur' : Array Value} (hc : c.length = s) (hf : ∀ k, k < n * s → cur[k]? = some (fillF c f i k)) (hn : n ≤ cap) (hi : i < n) (hsz : cur.size = cap * s)
    (h1 : ∀ j, j < s → cur'[i * s + j]? = c[j]?) (h2 : ∀ k, (k < i * s ∨ i * s + s ≤ k) → cur'[k]? = cur[k]?) : ∀ k, k < n * s → cur'[k]? = some (fillF c f (i + 1) k) := by
  intro k hk
  by_cases hin : i * s ≤ k ∧ k < i * s + s
  · have e : k = i * s + (k - i * s) := by omega
    have hj : k - i * s < s := by omega
    rw [e, h1 _ hj]
    unfold fillF
    rw [if_pos (by rw [hc, Nat.add_mul]; omega), ← hc, mkF_shift]
    unfold mkF
    rw [hc, Nat.mod_eq_of_lt hj, List.getD_eq_getElem?_getD, List.getElem?_eq_getElem (by omega)]
    rfl
  · rw [h2 k (by omega), hf k hk]
    unfold fillF
    rw [hc]
    by_cases h3 : k < i * s
    · rw [if_pos h3, if_pos (by rw [Nat.add_mul]; omega)]
    · rw [if_neg h3, if_neg (by rw [Nat.add_mul]; omega)]
/-- one mark laid over a place -/
theorem fill_put2 {w : World} {e : TypeId} {g n cap i : Nat} {x y : Value} {f : Nat → Value} (h : Rws w e 2 (.slice (some ⟨g, 0, none⟩) n cap) n (fillF [x, y] f i)) (hi : i < n) :
    w.there g (i * 2) 2 ∧ Rws (w.setCells g (i * 2) [x, y]) e 2 (.slice (some ⟨g, 0, none⟩) n cap) n (fillF [x, y] f (i + 1)) ∧ Fl [⟨.slice (some ⟨g, 0, none⟩) n cap, n, [x, y]⟩] w (w.setCells g (i * 2) [x, y]) := by
  rcases h with ⟨h0, -⟩ | ⟨g', cap', cur, e1, hg, hn, hcm, hsz, hf⟩
  · cases h0
  · cases e1
    have hlt : i * 2 + 1 < cur.size := by rw [hsz]; omega
    have hw : w.setCells g (i * 2) [x, y] = (w.setCell ⟨g, i * 2, none⟩ x).setCell ⟨g, i * 2 + 1, none⟩ y := rfl
    obtain ⟨k1, f1⟩ := set_heap1 w g (i * 2) cur e x hg
    obtain ⟨k2, f2⟩ := set_heap1 (w.setCell ⟨g, i * 2, none⟩ x) g (i * 2 + 1) _ e y k1
    refine ⟨fun j hj => ?_, .inr ⟨g, cap, _, rfl, by rw [hw]; exact k2, hn, hcm, by simpa using hsz, ?_⟩, ?_⟩
    · constructor
      · rw [cell_of_row w g (i * 2 + j) cur e (0, 0) hg, Array.getElem?_eq_getElem (by omega)]; rfl
      · simp [World.frozen?, hg]
    · refine put_cells (s := 2) rfl hf hn hi hsz (fun j hj => ?_) (fun k hk => ?_)
      · have : j = 0 ∨ j = 1 := by omega
        rcases this with rfl | rfl
        · rw [Array.getElem?_setIfInBounds_ne (by omega), Nat.add_zero, Array.getElem?_setIfInBounds_self_of_lt (by omega)]; rfl
        · rw [Array.getElem?_setIfInBounds_self_of_lt (by simpa using hlt)]; rfl
      · rw [Array.getElem?_setIfInBounds_ne (by omega), Array.getElem?_setIfInBounds_ne (by omega)]
    · rw [hw]
      refine fl_own (f1.trans f2 (fun x hx => .inl hx)) (fun x hx g' e' => ?_)
      rw [List.mem_singleton.1 hx] at e'
      exact ⟨_, List.mem_singleton.2 rfl, e'⟩
theorem fill_put1 {w : World} {e : TypeId} {g n cap i : Nat} {x : Value} {f : Nat → Value} (h : Rws w e 1 (.slice (some ⟨g, 0, none⟩) n cap) n (fillF [x] f i)) (hi : i < n) :
    (∃ u, w.cell? ⟨g, i, none⟩ = some u) ∧ w.frozen? ⟨g, i, none⟩ = false ∧ Rws (w.setCell ⟨g, i, none⟩ x) e 1 (.slice (some ⟨g, 0, none⟩) n cap) n (fillF [x] f (i + 1)) ∧ Fl [⟨.slice (some ⟨g, 0, none⟩) n cap, n, [x]⟩] w (w.setCell ⟨g, i, none⟩ x) := by
  rcases h with ⟨h0, -⟩ | ⟨g', cap', cur, e1, hg, hn, hcm, hsz, hf⟩
  · cases h0
  · cases e1
    have hlt : i < cur.size := by rw [hsz]; omega
    obtain ⟨k1, f1⟩ := set_heap1 w g i cur e x hg
    refine ⟨⟨cur[i], by rw [cell_of_row w g i cur e (0, 0) hg, Array.getElem?_eq_getElem hlt]⟩, by simp [World.frozen?, hg], .inr ⟨g, cap, _, rfl, k1, hn, hcm, by simpa using hsz, ?_⟩, ?_⟩
    · refine put_cells (s := 1) rfl hf hn hi hsz (fun j hj => ?_) (fun k hk => ?_)
      · obtain rfl : j = 0 := by omega
        rw [Nat.add_zero, Nat.mul_one, Array.getElem?_setIfInBounds_self_of_lt hlt]; rfl
      · rw [Array.getElem?_setIfInBounds_ne (by omega)]
    · refine fl_own f1 (fun x hx g' e' => ?_)
      rw [List.mem_singleton.1 hx] at e'
      exact ⟨_, List.mem_singleton.2 rfl, e'⟩
end Go.Proofs.Ytfebiemfmiahhab
namespace Go.Proofs.Ytfebiemfmiahhab
open Go.ChangeShapes Go.WideShapes Go.ChangeAt Go.RowKit
set_option linter.unusedVariables false
set_option linter.unusedSimpArgs false
set_option maxRecDepth 100000
set_option maxHeartbeats 8000000
theorem size46 : (Try.prog.info? 46).map (·.size) = some 2 := by kernel_rfl
theorem fill_any (w : World) (a : Option Addr) (n cap : Nat) (m : Pl) (f : Nat → Value) (h : Rws w 46 2 (.slice a n cap) n f) (hn : n ≤ 1000000) :
    Calls Try.prog 25 #[.slice a n cap, .agg #[.int .i64 m.1, .string (bs m.2)]] w fun e w' => e = .returned (.tuple #[]) ∧ Hid (Rws w' 46 2 (.slice a n cap) n (mkF [.int .i64 m.1, .string (bs m.2)]) ∧ Fl [⟨.slice a n cap, n, [.int .i64 m.1, .string (bs m.2)]⟩] w w') := by
  have hal : Below w.heap.size w (w.alloc (.cells #[.int .i64 m.1, .string (bs m.2)] 46)) := (Below.refl _ _).alloc (Nat.le_refl _) _
  have HL := hide h.lt
  have H1 : Hid (Rws (w.alloc (.cells #[.int .i64 m.1, .string (bs m.2)] 46)) 46 2 (.slice a n cap) n (fillF [.int .i64 m.1, .string (bs m.2)] f 0) ∧ (w.alloc (.cells #[.int .i64 m.1, .string (bs m.2)] 46)).heap[w.heap.size]? = some (.cells #[.int .i64 m.1, .string (bs m.2)] 46 (0, 0)) ∧ Fl [⟨.slice a n cap, n, [.int .i64 m.1, .string (bs m.2)]⟩] w (w.alloc (.cells #[.int .i64 m.1, .string (bs m.2)] 46))) := hide ⟨fill_begin (h.below hal), heap_alloc_new _ _, Fl.of hal⟩
  clear h hal
  obtain ⟨w1, hw1⟩ : ∃ w1, w.alloc (.cells #[.int .i64 m.1, .string (bs m.2)] 46) = w1 := ⟨_, rfl⟩
  rw [hw1] at H1
  have H46 := hide size46
  go_enter Try.func25, Try.ntmps25
  go_wp2_with fail
  clear hw1
  go_loopw [4] (fun iv wr => ∃ i : Nat, iv = .int .i64 ((i : Nat) : Int) ∧ i ≤ n ∧ Hid (Rws wr 46 2 (.slice a n cap) n (fillF [.int .i64 m.1, .string (bs m.2)] f i) ∧ wr.heap[w.heap.size]? = some (.cells #[.int .i64 m.1, .string (bs m.2)] 46 (0, 0)) ∧ Fl [⟨.slice a n cap, n, [.int .i64 m.1, .string (bs m.2)]⟩] w wr)) (fun iv _ => n - (intOf iv).toNat)
  case atStart => exact ⟨0, rfl, Nat.zero_le _, H1⟩
  case round =>
    obtain ⟨i, rfl, hi, HO⟩ := hrel
    clear H1
    by_cases hin : i < n
    · have f1 : decide ((i : Int) < (n : Int)) = true := decide_eq_true (by omega)
      have g1 : (0 : Int) ≤ (i : Int) := by omega
      have g2 : (i : Int) < (n : Int) := by omega
      obtain ⟨q1, q2, q3⟩ := unhide HO
      obtain ⟨g, cap', e, hown, hgl, -⟩ := q1.at (by omega)
      cases e
      obtain ⟨th, p1, p2⟩ := fill_put2 q1 hin
      have z0 : wr.cell? ⟨w.heap.size, 0, none⟩ = some (.int .i64 m.1) := cell_blk q2 0
      have z1 : wr.cell? ⟨w.heap.size, 1, none⟩ = some (.string (bs m.2)) := cell_blk q2 1
      have HN : Hid (Rws (wr.setCells g (i * 2) [.int .i64 m.1, .string (bs m.2)]) 46 2 (.slice (some ⟨g, 0, none⟩) n cap) n (fillF [.int .i64 m.1, .string (bs m.2)] f (i + 1)) ∧ (wr.setCells g (i * 2) [.int .i64 m.1, .string (bs m.2)]).heap[w.heap.size]? = some (.cells #[.int .i64 m.1, .string (bs m.2)] 46 (0, 0)) ∧ Fl [⟨.slice (some ⟨g, 0, none⟩) n cap, n, [.int .i64 m.1, .string (bs m.2)]⟩] w (wr.setCells g (i * 2) [.int .i64 m.1, .string (bs m.2)])) := hide ⟨p1, by
        rw [p2.block w.heap.size (Array.getElem?_eq_some_iff.1 q2).1 (fun x hx e => by
          rw [List.mem_singleton.1 hx] at e
          have := unhide HL w.heap.size e
          omega)]
        exact q2, q3.trans p2 (fun x hx => .inl hx)⟩
      have TH := hide th
      clear q1 q2 q3 p1 p2 th hown hgl HO
      go_wp2_with (first
        | (refine wpList_store_mid rfl 46 (.tmp 14) (.tmp 13) rfl g (i * 2) #[.int .i64 m.1, .string (bs m.2)] rfl rfl (unhide TH) (unhide H46) (by simp [Value.oneCell']) ?_; generalize hw8 : World.setCells wr g (i * 2) _ = w8; have H8 : Hid _ := HN; rw [show wr.setCells g (i * 2) [.int .i64 m.1, .string (bs m.2)] = w8 from hw8] at H8; clear hw8 HN TH z0 z1))
      exact ⟨⟨i + 1, congrArg (Value.int .i64) (by omega), by omega, H8⟩, by simp [intOf]; omega⟩
    · obtain rfl : i = n := by omega
      have f1 : decide ((i : Int) < (i : Int)) = false := decide_eq_false (by omega)
      go_wp2_with fail
      go_end0
      exact ⟨rfl, hide ⟨fill_end (unhide HO).1 rfl, (unhide HO).2.2⟩⟩
theorem fillInts_any (w : World) (a : Option Addr) (n cap : Nat) (m : Int) (f : Nat → Value) (h : Rws w 3 1 (.slice a n cap) n f) (hn : n ≤ 1000000) :
    Calls Try.prog 26 #[.slice a n cap, .int .i64 m] w fun e w' => e = .returned (.tuple #[]) ∧ Hid (Rws w' 3 1 (.slice a n cap) n (mkF [.int .i64 m]) ∧ Fl [⟨.slice a n cap, n, [.int .i64 m]⟩] w w') := by
  have H1 : Hid (Rws w 3 1 (.slice a n cap) n (fillF [.int .i64 m] f 0) ∧ Fl [⟨.slice a n cap, n, [.int .i64 m]⟩] w w) := hide ⟨fill_begin h, Fl.refl _ _⟩
  clear h
  go_enter Try.func26, Try.ntmps26
  go_wp2_with fail
  go_loopw [4] (fun iv wr => ∃ i : Nat, iv = .int .i64 ((i : Nat) : Int) ∧ i ≤ n ∧ Hid (Rws wr 3 1 (.slice a n cap) n (fillF [.int .i64 m] f i) ∧ Fl [⟨.slice a n cap, n, [.int .i64 m]⟩] w wr)) (fun iv _ => n - (intOf iv).toNat)
  case atStart => exact ⟨0, rfl, Nat.zero_le _, H1⟩
  case round =>
    obtain ⟨i, rfl, hi, HO⟩ := hrel
    clear H1
    by_cases hin : i < n
    · have f1 : decide ((i : Int) < (n : Int)) = true := decide_eq_true (by omega)
      have g1 : (0 : Int) ≤ (i : Int) := by omega
      have g2 : (i : Int) < (n : Int) := by omega
      obtain ⟨q1, q3⟩ := unhide HO
      obtain ⟨g, cap', e, hown, hgl, -⟩ := q1.at (by omega)
      cases e
      obtain ⟨⟨u, x0⟩, x1, p1, p2⟩ := fill_put1 q1 hin
      have HN : Hid (Rws (wr.setCell ⟨g, i, none⟩ (.int .i64 m)) 3 1 (.slice (some ⟨g, 0, none⟩) n cap) n (fillF [.int .i64 m] f (i + 1)) ∧ Fl [⟨.slice (some ⟨g, 0, none⟩) n cap, n, [.int .i64 m]⟩] w (wr.setCell ⟨g, i, none⟩ (.int .i64 m))) := hide ⟨p1, q3.trans p2 (fun x hx => .inl hx)⟩
      clear q1 q3 p1 p2 hown hgl HO
      go_wp2_with fail
      exact ⟨⟨i + 1, congrArg (Value.int .i64) (by omega), by omega, HN⟩, by simp [intOf]; omega⟩
    · obtain rfl : i = n := by omega
      have f1 : decide ((i : Int) < (i : Int)) = false := decide_eq_false (by omega)
      go_wp2_with fail
      go_end0
      exact ⟨rfl, hide ⟨fill_end (unhide HO).1 rfl, (unhide HO).2⟩⟩
end Go.Proofs.Ytfebiemfmiahhab
