/- The law WordBurst, out of the contracts. -/
import Derived.Test.YtochdajeocganaaTurned
namespace Go.Proofs.Ytochdajeocganaa
open Go.ChangeShapes Go.WideShapes Go.ChangeAt Go.RowKit
set_option linter.unusedVariables false

theorem fields3 {w wx : World} {v0 v1 v2 : Value} {t : TypeId} (hb : Below (w.alloc (.cells #[v0, v1, v2] t)).heap.size (w.alloc (.cells #[v0, v1, v2] t)) wx) :
    wx.cell? ⟨w.heap.size, 0, none⟩ = some v0 ∧ wx.cell? ⟨w.heap.size, 1, none⟩ = some v1 ∧ wx.cell? ⟨w.heap.size, 2, none⟩ = some v2 := by
  refine ⟨?_, ?_, ?_⟩
  all_goals (rw [hb.cell (by simp)]; simp)

theorem Below.chain {B : Nat} {a b c : World} (h : Below B a b) (k : Below b.heap.size b c) (hB : B ≤ b.heap.size) : Below B a c := h.trans (k.mono hB)

theorem int_beq_nat (a b : Nat) : ((a : Int) == (b : Int)) = decide (a = b) := by
  rw [Bool.eq_iff_iff, beq_iff_eq, decide_eq_true_iff]; omega

theorem big_length (S : BitVec 64) : (Larder.bigBytes S).length = 8 := rfl
theorem big_at (S : BitVec 64) (k : Nat) (hk : k < 8) : ((Larder.bigBytes S).getD k 0 : Int) = (S.toNat : Int) / 2 ^ (56 - 8 * k) % 256 := by
  obtain rfl | rfl | rfl | rfl | rfl | rfl | rfl | rfl : k = 0 ∨ k = 1 ∨ k = 2 ∨ k = 3 ∨ k = 4 ∨ k = 5 ∨ k = 6 ∨ k = 7 := by omega
  all_goals
    simp only [Larder.bigBytes, List.getD_cons_succ, List.getD_cons_zero, BitVec.toNat_ushiftRight, Nat.shiftRight_eq_div_pow]
    simp
theorem take_succ_big (S : BitVec 64) (k : Nat) (hk : k < 8) : (Larder.bigBytes S).take (k + 1) = (Larder.bigBytes S).take k ++ [(Larder.bigBytes S).getD k 0] := by
  rw [List.take_succ_eq_append_getElem (by rw [big_length]; exact hk), List.getD_eq_getElem?_getD, List.getElem?_eq_getElem (by rw [big_length]; exact hk)]; rfl
theorem small_append {l m : List Nat} (hl : Small l) (hm : ∀ c ∈ m, c < 256) : Small (l ++ m) := by
  intro i hi
  by_cases h : i < l.length
  · have := hl i h
    rw [List.getD_eq_getElem?_getD] at this ⊢
    rwa [List.getElem?_append_left h]
  · rw [List.getD_eq_getElem?_getD, List.getElem?_append_right (by omega)]
    have hlt : i - l.length < m.length := by simp at hi; omega
    rw [List.getElem?_eq_getElem hlt]
    exact hm _ (List.getElem_mem hlt)

set_option maxHeartbeats 1000000 in
theorem burst_in (a : Option Addr) (cap : Nat) (w : World) (l : List Nat) (at' x : Nat) (hx : x < 18446744073709551616) (hat : at' ≤ 8 * l.length + 64) (hl : l.length ≤ 140737488351232) (hB : Bytes w a l) (hnil : a = none → cap = 0) (hs : Small l) :
    Calls Try.prog 4 #[.agg #[.slice a l.length cap, .int .i64 at', .int .u64 x]] w fun e w' => e = .returned (.bool true) ∧ Below w.heap.size w w' := by
  have hb0 : Below w.heap.size w (w.alloc (.cells #[.slice a l.length cap, .int .i64 at', .int .u64 x] 29)) := (Below.refl _ _).alloc (Nat.le_refl _) _
  have hz0 : w.heap.size ≤ (w.alloc (.cells #[.slice a l.length cap, .int .i64 at', .int .u64 x] 29)).heap.size := hb0.size
  have hB0 := hB.below hb0
  go_enter Try.func4, Try.ntmps4
  go_wp2_with fail
  refine (sum_any a cap _ l (by omega) hs hB0).mono ?_
  rintro e w1 ⟨rfl, hb1⟩
  obtain ⟨f0, f1, f2⟩ := fields3 hb1
  have hB1 := hB0.below hb1
  obtain ⟨s, hsum⟩ : ∃ s, s = (Larder.sumOf l).toNat := ⟨_, rfl⟩
  rw [← hsum]
  have HS := hide hsum
  clear hsum
  go_wp2_with fail
  refine (turned_any a cap w1 l at' x hx (by omega) (by omega) hB1 hnil hs).mono ?_
  rintro e w2 ⟨v2, rfl, hown2, hb2⟩
  obtain ⟨m, hm⟩ : ∃ m, m = Larder.turnK l at' x 64 := ⟨_, rfl⟩
  rw [← hm] at hown2
  have hml : m.length = l.length := by rw [hm]; exact Larder.turnK_length _ _ _ _
  have hms : Small m := by rw [hm]; exact Larder.turnK_small hs _ _ _
  obtain ⟨a2, cap2, rfl, hB2, hn2⟩ := hown2.shape
  have hb12 := Below.chain hb1 hb2 hb1.size
  obtain ⟨g0, g1, g2⟩ := fields3 hb12
  have hB2' := hB1.below hb2
  have HM := hide hm
  have HML := hide hml
  have hmle : m.length ≤ 140737488351232 := by omega
  clear hm hml f0 f1 f2
  go_wp2_with fail
  refine (same_any a2 a cap2 cap w2 m l hB2 hB2' hms hs).mono ?_
  rintro e w2' ⟨rfl, rfl⟩
  go_wp2_with fail
  refine (sum_any a2 cap2 w2' m (by omega) hms hB2).mono ?_
  rintro e w3 ⟨rfl, hb3⟩
  obtain ⟨sm, hsm⟩ : ∃ s, s = (Larder.sumOf m).toNat := ⟨_, rfl⟩
  rw [← hsm]
  have hdec : (decide (m = l) == ((sm : Int) == (s : Int))) = true := by
    rw [int_beq_nat, hsm, unhide HS]
    have hm := unhide HM
    by_cases e : m = l
    · simp [e]
    · have : ¬ (Larder.sumOf m).toNat = (Larder.sumOf l).toNat := by
        intro h
        apply e
        have h2 := BitVec.eq_of_toNat_eq h
        rw [hm] at h2 ⊢
        exact Larder.turn_sum hs at' x h2
      simp [e, this]
  clear hsm
  have hb13 := Below.chain hb12 hb3 hb12.size
  obtain ⟨k0, k1, k2⟩ := fields3 hb13
  have hB3 := hB2'.below hb3
  clear g0 g1 g2 hms hB2 hown2
  go_wp2_with fail
  refine (copy_any a cap w3 l (by omega) hB3 hnil).mono ?_
  rintro e w4 ⟨v4, rfl, hown4, hb4⟩
  go_wp2_with fail
  obtain ⟨i0, hi, hy0, hy1, hy2⟩ := info_parts Try.info5
  go_loopw [5, 6] (fun v i wr => ∃ k : Nat, k ≤ 8 ∧ i = .int .i64 k ∧ OwnB wr w3.heap.size v (l ++ (Larder.bigBytes (Larder.sumOf l)).take k) ∧ Below w3.heap.size w3 wr) (fun _ i _ => 8 - (intOf i).toNat)
  case atStart => exact ⟨0, by omega, rfl, by simpa using hown4, hb4⟩
  case round =>
    obtain ⟨k, hk, rfl, hown, hbl⟩ := hrel
    by_cases hlt : k < 8
    · obtain ⟨cv, hcv⟩ : ∃ c, c = (Larder.bigBytes (Larder.sumOf l)).getD k 0 := ⟨_, rfl⟩
      have hv : (s : Int) / 2 ^ (56 - 8 * k) % 256 = (cv : Int) := by
        rw [hcv, big_at _ k hlt, unhide HS]
      have HN := hide (take_succ_big (Larder.sumOf l) k hlt)
      rw [← hcv] at HN
      have hlk : ((Larder.bigBytes (Larder.sumOf l)).take k).length = k := by rw [List.length_take, big_length]; omega
      generalize hT : (Larder.bigBytes (Larder.sumOf l)).take k = T at *
      have HT := hide hT
      clear hcv hT hdec hb13 hb12 hb1 hb0 hB0 hB1 hB2' hB3 hown4 hb4
      go_wp2_with (at_builtin; refine wpList_append_own _ rfl _ _ 26 rfl w3.heap.size 5 i0 (.int .u8 0) 1 1 Try.underlying26 hi hy0 hy1 hy2 rfl (by decide) _ _ _ rfl (hown.alloc _) ⟨wr.heap.size, 0, none⟩ 1 1 [.int .u8 (cv : Int)] rfl rfl ?c1 ?c2 ?c3 ?c4 ?c5 ?_)
      case c1 =>
        intro j u hj
        match j, hj with
        | 0, hj => simp at hj; subst hj; simp [Addr.add]
      case c2 => intro u hu; simp at hu; subst hu; rfl
      case c3 => simp [maxLen]; omega
      case c4 => simp; omega
      case c5 => have := hbl.size; simp; omega
      · intro v' w5 hown' hgrow _
        have hown5 : OwnB w5 w3.heap.size v' (l ++ (T ++ [cv])) := by
          unfold OwnB
          have e1 : (l ++ (T ++ [cv])).length = l.length + k + 1 := by simp; omega
          have e2 : cellsOf (l ++ (T ++ [cv])) = cellsOf (l ++ T) ++ [.int .u8 (cv : Int)] := by simp [cellsOf]
          rw [e1, e2]; exact hown'
        have hbl5 : Below w3.heap.size w3 w5 := by
          have hlt2 := hown.lt
          exact (hbl.alloc hbl.size _).grown hgrow (by have := hbl.size; simp; omega) (fun j hj => (hlt2 j hj).1)
        clear hown' hgrow hown hbl
        go_wp2
        go_roundw
        case rel => exact ⟨k + 1, by omega, by go_num, by rw [unhide HN]; exact hown5, hbl5⟩
        case measure => simp [intOf]; omega
    · have hk8 : k = 8 := by omega
      subst hk8
      have hT8 : (Larder.bigBytes (Larder.sumOf l)).take 8 = Larder.bigBytes (Larder.sumOf l) := rfl
      rw [hT8] at hown
      have hz : (Larder.sumOf (l ++ Larder.bigBytes (Larder.sumOf l))).toNat = 0 := by rw [Larder.sum_behind]; rfl
      have hs5 : Small (l ++ Larder.bigBytes (Larder.sumOf l)) := small_append hs (Larder.big_small _)
      have hl5 : (l ++ Larder.bigBytes (Larder.sumOf l)).length = l.length + 8 := by rw [List.length_append, big_length]
      generalize l ++ Larder.bigBytes (Larder.sumOf l) = l5 at *
      have HZ := hide hz
      obtain ⟨a5, cap5, rfl, hB5, hn5⟩ := hown.shape
      have hbr : Below _ (w.alloc (.cells #[.slice a l.length cap, .int .i64 at', .int .u64 x] 29)) wr := Below.chain hb13 hbl hb13.size
      obtain ⟨p0, p1, p2⟩ := fields3 hbr
      have hl5le : l5.length ≤ 140737488351240 := by omega
      have hat5 : at' ≤ 2251799813685248 := by omega
      clear hz hT8 hdec hown4 hb4 k0 k1 k2 hl5
      go_wp2_with fail
      refine (turned_any a5 cap5 wr l5 at' x hx hat5 (by omega) hB5 hn5 hs5).mono ?_
      rintro e w6 ⟨v6, rfl, hown6, hb6⟩
      obtain ⟨m6, hm6⟩ : ∃ m, m = Larder.turnK l5 at' x 64 := ⟨_, rfl⟩
      rw [← hm6] at hown6
      have hml6 : m6.length = l5.length := by rw [hm6]; exact Larder.turnK_length _ _ _ _
      have hms6 : Small m6 := by rw [hm6]; exact Larder.turnK_small hs5 _ _ _
      obtain ⟨a6, cap6, rfl, hB6, hn6⟩ := hown6.shape
      have HM6 := hide hm6
      have hml6le : m6.length ≤ 140737488351240 := by omega
      clear hm6 hml6
      have hB56 := hB5.below hb6
      go_wp2_with fail
      refine (sum_any a5 cap5 w6 l5 (by omega) hs5 hB56).mono ?_
      rintro e w7 ⟨he, hb7⟩
      rw [unhide HZ] at he
      subst he
      have hB57 := hB56.below hb7
      have hB67 := hB6.below hb7
      go_wp2_with fail
      refine (same_any a6 a5 cap6 cap5 w7 m6 l5 hB67 hB57 hms6 hs5).mono ?_
      rintro e w7' ⟨rfl, rfl⟩
      go_wp2_with fail
      refine (sum_any a6 cap6 w7' m6 (by omega) hms6 hB67).mono ?_
      rintro e w8 ⟨rfl, hb8⟩
      obtain ⟨s6, hs6⟩ : ∃ s, s = (Larder.sumOf m6).toNat := ⟨_, rfl⟩
      rw [← hs6]
      have hdec6 : (decide (m6 = l5) == ((s6 : Int) == 0)) = true := by
        have e0 : ((s6 : Int) == 0) = decide (s6 = 0) := int_beq_nat s6 0
        rw [e0, hs6]
        have hm := unhide HM6
        by_cases e : m6 = l5
        · rw [e, unhide HZ]; simp
        · have : ¬ (Larder.sumOf m6).toNat = 0 := by
            intro h
            apply e
            have h2 : Larder.sumOf m6 = Larder.sumOf l5 := BitVec.eq_of_toNat_eq (by rw [h, unhide HZ])
            rw [hm] at h2 ⊢
            exact Larder.turn_sum hs5 at' x h2
          simp [e, this]
      clear hs6
      go_wp2
      go_ret
      refine ⟨rfl, ?_⟩
      exact Below.chain hb0 (Below.chain (Below.chain (Below.chain hbr hb6 hbr.size) hb7 (Nat.le_trans hbr.size hb6.size)) hb8 (Nat.le_trans (Nat.le_trans hbr.size hb6.size) hb7.size)) hb0.size
set_option maxHeartbeats 400000 in
theorem burst_out (a : Option Addr) (n cap : Nat) (w : World) (at' : Int) (x : Nat) (hl : n ≤ 140737488351232) (hat : at' < 0 ∨ 8 * (n : Int) + 64 < at') :
    Calls Try.prog 4 #[.agg #[.slice a n cap, .int .i64 at', .int .u64 x]] w fun e w' => e = .returned (.bool true) ∧ Below w.heap.size w w' := by
  rcases hat with h | h
  · go_enter Try.func4, Try.ntmps4
    go_wp2
    go_ret
    exact ⟨rfl, (Below.refl _ _).alloc (Nat.le_refl _) _⟩
  · have h0 : ¬ at' < 0 := by omega
    go_enter Try.func4, Try.ntmps4
    go_wp2
    go_ret
    exact ⟨rfl, (Below.refl _ _).alloc (Nat.le_refl _) _⟩
end Go.Proofs.Ytochdajeocganaa
