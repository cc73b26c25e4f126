/- quote, holdsAt. -/
import Derived.Test.YtidfbelckdlbhaaQpl
import Derived.Test.YtidfbelckdlbhaaCnc
import Derived.Test.YtidfbelckdlbhaaEqs
namespace Go.Proofs.Ytidfbelckdlbhaa
open Go.ChangeShapes Go.WideShapes Go.ChangeAt Go.RowKit
set_option linter.unusedVariables false
set_option maxRecDepth 20000
set_option maxHeartbeats 1000000

theorem take_next (l : List Nat) (i : Nat) (h : i < l.length) : l.take (i + 1) = l.take i ++ [l.getD i 0] := by
  rw [List.getD_eq_getElem?_getD, List.getElem?_eq_getElem h, List.take_add_one, List.getElem?_eq_getElem h]
  rfl
theorem quote_any (a : Option Addr) (n cap : Nat) (w : World) (l : List Nat) (hn : n = l.length) (hl : l.length ≤ 1048576) (hB : Bytes w a l) :
    Calls Try.prog 14 #[.slice a n cap] w fun e w' => ∃ v, e = .returned v ∧ OwnB w' w.heap.size v (Larder.quoteL l) ∧ Below w.heap.size w w' := by
  have HN := hide hn
  have H1 := hide hB
  rw [← hn] at hl
  clear hn hB
  go_enter Try.func14, Try.ntmps14
  go_wp2_with fail
  go_loopw [3, 4] (fun v iv wr => ∃ i : Nat, iv = .int .i64 (i : Nat) ∧ i ≤ n ∧ OwnB wr w.heap.size v (Larder.quoteL (l.take i)) ∧ Below w.heap.size w wr) (fun _ iv _ => n - (intOf iv).toNat)
  case atStart => exact ⟨0, rfl, Nat.zero_le _, OwnB.nil _ _, Below.refl _ _⟩
  case round =>
    obtain ⟨i, rfl, hi, hO, hb⟩ := hrel
    by_cases hin : i < n
    · obtain ⟨g, off, rfl, hlt, hc⟩ := (unhide H1).at (by rw [← unhide HN]; omega)
      have c1 := (hb.cell (p := ⟨g, off + i, none⟩) hlt).trans (hc i (by rw [← unhide HN]; exact hin))
      have HNX : Hid (Larder.quoteL (l.take (i + 1)) = Larder.quoteL (l.take i) ++ [92, l.getD i 0]) := hide (by rw [take_next l i (by rw [← unhide HN]; exact hin), Larder.quoteL_snoc])
      generalize l.getD i 0 = y at *
      have hal : Below wr.heap.size wr (wr.alloc (.cells #[.int .u8 92, .int .u8 (y : Nat)] 5)) := (Below.refl _ _).alloc (Nat.le_refl _) _
      have HO : Hid (OwnB (wr.alloc (.cells #[.int .u8 92, .int .u8 (y : Nat)] 5)) w.heap.size _ (Larder.quoteL (l.take i))) := hide (hO.below hal)
      have HS : Hid (Bytes (wr.alloc (.cells #[.int .u8 92, .int .u8 (y : Nat)] 5)) (some ⟨wr.heap.size, 0, none⟩) [92, y]) := hide (.inr ⟨wr.heap.size, 0, rfl, by simp, fun j hj => by
        rw [Nat.zero_add, cell_of_row _ _ _ _ _ _ (heap_alloc_new wr _)]
        match j, hj with
        | 0, _ => rfl
        | 1, _ => rfl⟩)
      have HL : Hid ((Larder.quoteL (l.take i)).length + [92, y].length ≤ 140737488355328) := hide (by rw [Larder.quoteL_len, List.length_take, ← unhide HN]; show _ + 2 ≤ _; omega)
      have HZ : Hid (w.heap.size ≤ (wr.alloc (.cells #[.int .u8 92, .int .u8 (y : Nat)] 5)).heap.size) := hide (by have := hb.size; simp; omega)
      have HB := hide (chain hb hal (Nat.le_refl _))
      clear hc hO hb hal
      go_wp2_with (at_builtin; refine wpList_app rfl _ _ rfl w.heap.size _ (Larder.quoteL (l.take i)) [92, y] (some ⟨wr.heap.size, 0, none⟩) 2 2 rfl rfl (unhide HO) rfl (unhide HS) (fun h => by cases h) (unhide HL) (unhide HZ) ?_)
      intro v' w' h1 h2
      have HX := hide h1
      have HY := hide ((unhide HB).trans h2)
      clear h1 h2
      go_wp2
      go_roundw
      case rel => exact ⟨i + 1, by simp, by omega, by rw [unhide HNX]; exact unhide HX, unhide HY⟩
      case measure => simp [intOf]; omega
    · have hii : i = n := by omega
      subst hii
      have e : l.take i = l := by rw [unhide HN, List.take_length]
      rw [e] at hO
      have HO := hide hO
      have HB := hide hb
      clear hO hb e
      go_wp2
      go_ret
      exact ⟨_, rfl, unhide HO, unhide HB⟩

theorem holds_any (a b : Option Addr) (n k c d : Nat) (i : Int) (w : World) (U T : List Nat) (hn : n = U.length) (hk : k = T.length) (hU : U.length ≤ 1048576) (hT : T.length ≤ 1048576) (hc : U.length ≤ c) (hc2 : c ≤ 9223372036854775807) (hi : -1048576 ≤ i ∧ i ≤ 1048576) (hB : Bytes w a U) (hB2 : Bytes w b T) :
    Calls Try.prog 15 #[.slice a n c, .slice b k d, .int .i64 i] w fun e w' => e = .returned (.bool (decide (0 ≤ i) && Larder.holdsB U T i.toNat)) ∧ Still w w' := by
  by_cases h0 : i < 0
  · have e : (decide (0 ≤ i) && Larder.holdsB U T i.toNat) = false := by rw [decide_eq_false (by omega)]; rfl
    rw [e]
    have f1 : decide (0 ≤ i) = false := decide_eq_false (by omega)
    clear hn hk hB hB2 e
    go_enter Try.func15, Try.ntmps15
    go_wp2
    all_goals try omega
    all_goals go_ret
    all_goals exact ⟨rfl, Still.refl _⟩
  · obtain ⟨j, rfl⟩ : ∃ j : Nat, i = j := ⟨i.toNat, by omega⟩
    clear h0
    rw [Int.toNat_natCast, decide_eq_true (Int.natCast_nonneg j), Bool.true_and]
    have k1 : IntKind.i64.wrap ((j : Int) + (k : Int)) = ((j + k : Nat) : Int) := by rw [IntKind.wrap_i64]; omega
    have f1 : decide (0 ≤ (j : Int)) = true := decide_eq_true (by omega)
    by_cases hjk : j + k ≤ n
    · have f2 : decide (((j + k : Nat) : Int) ≤ (n : Int)) = true := decide_eq_true (by omega)
      have hlen : ((U.drop j).take k).length = k := by rw [List.length_take, List.length_drop]; omega
      have hR : Larder.holdsB U T j = decide ((U.drop j).take k = T) := by
        unfold Larder.holdsB
        rw [← hk]
        simp only [show j + k ≤ U.length by omega, true_and]
      rw [hR]
      have E : Hid (∀ a' c', Bytes w a' ((U.drop j).take k) → Calls Try.prog 16 #[.slice a' k c', .slice b k d] w fun e w' => e = .returned (.bool (decide ((U.drop j).take k = T))) ∧ Still w w') := hide (fun a' c' hb => by
        have h := eq_any (c1 := c') (c2 := d) (la := (U.drop j).take k) (lb := T) (by omega) (by omega) hb hB2
        rw [hlen, ← hk] at h
        exact h)
      by_cases hcj : c = j
      · have hk0 : k = 0 := by omega
        have hb : Bytes w a ((U.drop j).take k) := .inl (List.eq_nil_of_length_eq_zero (by omega))
        have E1 := hide (unhide E a 0 hb)
        generalize decide ((U.drop j).take k = T) = R at *
        rw [← hn] at hU hc
        rw [← hk] at hT
        subst hcj
        clear hn hk hB hB2 E hR hlen hb
        subst hk0
        go_enter Try.func15, Try.ntmps15
        go_wp2_with fail
        all_goals try omega
        refine (unhide E1).mono ?_
        rintro e w1 ⟨rfl, hs⟩
        go_wp2
        go_ret
        exact ⟨ret_bool (by simp), hs⟩
      · have hb : Bytes w (a.map (fun x => x.add j)) ((U.drop j).take k) := by
          cases a with
          | none =>
            rcases hB with h | ⟨_, _, h, _⟩
            · subst h
              exact .inl (by simp)
            · cases h
          | some x =>
            rcases hB with rfl | ⟨bb, off, h, hbb, hcc⟩
            · exact .inl (by simp)
            · cases h
              refine .inr ⟨bb, off + j, by rw [Option.map_some, add_plain], hbb, fun q hq => ?_⟩
              rw [hlen] at hq
              rw [Nat.add_assoc, hcc (j + q) (by omega), List.getD_eq_getElem?_getD, List.getD_eq_getElem?_getD, List.getElem?_take, if_pos hq, List.getElem?_drop]
        have E1 := hide (unhide E _ (c - j) hb)
        generalize decide ((U.drop j).take k = T) = R at *
        rw [← hn] at hU hc
        rw [← hk] at hT
        clear hn hk hB hB2 E hR hlen hb
        go_enter Try.func15, Try.ntmps15
        go_wp2_with fail
        all_goals try omega
        refine (unhide E1).mono ?_
        rintro e w1 ⟨rfl, hs⟩
        go_wp2
        go_ret
        exact ⟨ret_bool (by simp), hs⟩
    · have f2 : decide (((j + k : Nat) : Int) ≤ (n : Int)) = false := decide_eq_false (by omega)
      have e : Larder.holdsB U T j = false := by
        unfold Larder.holdsB
        exact decide_eq_false (fun h => by have := h.1; omega)
      rw [e]
      rw [← hn] at hU hc
      rw [← hk] at hT
      clear hn hk hB hB2 e
      go_enter Try.func15, Try.ntmps15
      go_wp2
      all_goals try omega
      all_goals go_ret
      all_goals exact ⟨rfl, Still.refl _⟩
end Go.Proofs.Ytidfbelckdlbhaa
