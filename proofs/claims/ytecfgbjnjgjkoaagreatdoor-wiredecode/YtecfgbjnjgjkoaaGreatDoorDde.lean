/- The document's item: lines, numbers, nothing, none of these. -/
import Derived.Test.YtecfgbjnjgjkoaaGreatDoorDdb
import Derived.Test.YtecfgbjnjgjkoaaGreatDoorLix
import Derived.Test.YtecfgbjnjgjkoaaGreatDoorDcr
import Derived.Test.YtecfgbjnjgjkoaaGreatDoorPfa
namespace Go.Proofs.YtecfgbjnjgjkoaaGreatDoor
open Go.ChangeShapes Go.WideShapes Go.ChangeAt Go.RowKit
set_option linter.unusedVariables false
set_option linter.unusedSimpArgs false
set_option maxRecDepth 20000
set_option maxHeartbeats 4000000

/-- so many bytes and a line's end -/
def cntP (k : Nat) (T : List Nat) : Larder8.St Unit := if T.length < k then .short else Larder8.endP (T.drop k)
theorem rcontent_any (w : World) (a : Option Addr) (n cp : Nat) (T : List Nat) (k : Nat) (hn : n = T.length) (hB : Bytes w a T) (hl : n ≤ 1073741824) (hk : k ≤ 1073741824) :
    Calls Tryz.prog 72 #[.slice a n cp, .int .i64 (k : Nat)] w fun e w' => ∃ m st : Int, e = .returned (.tuple #[.int .i64 m, .int .i64 st]) ∧ Hid (StD (cntP k T) st ∧ (∀ r, cntP k T = .ok () r → m = (k : Int) + 2 ∧ r = T.drop (k + 2)) ∧ w = w') := by
  have HN := hide hn
  have HC : Hid (0 < n → ∃ b off, a = some ⟨b, off, none⟩ ∧ ∀ k, k < n → w.cell? ⟨b, off + k, none⟩ = some (.int .u8 (T.getD k 0 : Nat))) := hide (fun hk => by
    rcases hB with h | ⟨b, off, e, hb, hcell⟩
    · rw [h] at hn; simp at hn; omega
    · exact ⟨b, off, e, fun k hk => hcell k (by omega)⟩)
  clear hn hB
  by_cases h1 : k < n
  · have f1 : decide ((n : Int) > (k : Int)) = true := decide_eq_true (by omega)
    have f1' : decide ((k : Int) < (n : Int)) = true := decide_eq_true (by omega)
    have g1 : (0 : Int) ≤ (k : Int) := by omega
    have g2 : (k : Int) < (n : Int) := by omega
    obtain ⟨b, off, rfl, hcell⟩ := unhide HC (by omega)
    have ci := hcell k h1
    obtain ⟨c, hcc⟩ : ∃ c, c = T.getD k 0 := ⟨_, rfl⟩
    rw [← hcc] at ci
    have HCC := hide hcc
    have HD : Hid (cntP k T = Larder8.endP (c :: T.drop (k + 1))) := hide (by
      unfold cntP
      have := unhide HN
      rw [if_neg (by omega), drop_at' (by omega), ← hcc])
    clear hcc
    by_cases q : c = 13
    · subst q
      by_cases h2 : k + 1 < n
      · have f2 : decide ((n : Int) > (k : Int) + 1) = true := decide_eq_true (by omega)
        have f2' : decide ((k : Int) + 1 < (n : Int)) = true := decide_eq_true (by omega)
        have g3 : (0 : Int) ≤ (k : Int) + 1 := by omega
        have g4 : (k : Int) + 1 < (n : Int) := by omega
        have f3 : decide ((n : Int) < (k : Int) + 2) = false := decide_eq_false (by omega)
        have c2 := hcell (k + 1) h2
        obtain ⟨e2, he2⟩ : ∃ e2, e2 = T.getD (k + 1) 0 := ⟨_, rfl⟩
        rw [← he2] at c2
        have HD2 : Hid (cntP k T = Larder8.endP (13 :: e2 :: T.drop (k + 2))) := hide (by rw [unhide HD, drop_at' (by have := unhide HN; omega), ← he2])
        clear he2 hcell HC
        by_cases q2 : e2 = 10
        · subst q2
          have E : Hid (cntP k T = .ok () (T.drop (k + 2))) := hide (by rw [unhide HD2]; rfl)
          go_enter Tryz.func72, Tryz.ntmps72
          go_wp2_with fail
          go_ret2
          refine ⟨_, _, rfl, hide ⟨by rw [unhide E]; rfl, fun r e => ?_, rfl⟩⟩
          rw [unhide E] at e
          cases e
          exact ⟨rfl, rfl⟩
        · have x10 : ((e2 : Int) != 10) = true := by rw [bne_iff_ne]; omega
          have x10' : ((e2 : Int) == 10) = false := by rw [beq_eq_false_iff_ne]; omega
          have E : Hid (cntP k T = .wrong) := hide (by
            rw [unhide HD2]
            simp only [Larder8.endP]
            rw [if_neg (fun h => q2 h.2)])
          go_enter Tryz.func72, Tryz.ntmps72
          go_wp2_with fail
          go_ret2
          exact ⟨_, _, rfl, hide ⟨by rw [unhide E]; exact .inr rfl, fun r e => (by rw [unhide E] at e; cases e), rfl⟩⟩
      · have f2 : decide ((n : Int) > (k : Int) + 1) = false := decide_eq_false (by omega)
        have f2' : decide ((k : Int) + 1 < (n : Int)) = false := decide_eq_false (by omega)
        have f3 : decide ((n : Int) < (k : Int) + 2) = true := decide_eq_true (by omega)
        have E : Hid (cntP k T = .short) := hide (by rw [unhide HD, List.drop_eq_nil_of_le (by have := unhide HN; omega)]; rfl)
        clear hcell HC
        go_enter Tryz.func72, Tryz.ntmps72
        go_wp2_with fail
        go_ret2
        exact ⟨_, _, rfl, hide ⟨by rw [unhide E]; rfl, fun r e => (by rw [unhide E] at e; cases e), rfl⟩⟩
    · have x13 : ((c : Int) != 13) = true := by rw [bne_iff_ne]; omega
      have x13' : ((c : Int) == 13) = false := by rw [beq_eq_false_iff_ne]; omega
      have E : Hid (cntP k T = .wrong) := hide (by
        rw [unhide HD]
        cases hd : T.drop (k + 1) with
        | nil => simp only [Larder8.endP]; rw [if_neg q]
        | cons e r => simp only [Larder8.endP]; rw [if_neg (fun h => q h.1)])
      clear hcell HC
      go_enter Tryz.func72, Tryz.ntmps72
      go_wp2_with fail
      go_ret2
      exact ⟨_, _, rfl, hide ⟨by rw [unhide E]; exact .inr rfl, fun r e => (by rw [unhide E] at e; cases e), rfl⟩⟩
  · have f1 : decide ((n : Int) > (k : Int)) = false := decide_eq_false (by omega)
    have f1' : decide ((k : Int) < (n : Int)) = false := decide_eq_false (by omega)
    have f2 : decide ((n : Int) > (k : Int) + 1) = false := decide_eq_false (by omega)
    have f2' : decide ((k : Int) + 1 < (n : Int)) = false := decide_eq_false (by omega)
    have f3 : decide ((n : Int) < (k : Int) + 2) = true := decide_eq_true (by omega)
    have E : Hid (cntP k T = .short) := hide (by
      have := unhide HN
      unfold cntP
      split
      · rfl
      · rw [List.drop_eq_nil_of_le (by omega)]; rfl)
    clear HC
    go_enter Tryz.func72, Tryz.ntmps72
    go_wp2_with fail
    go_ret2
    exact ⟨_, _, rfl, hide ⟨by rw [unhide E]; rfl, fun r e => (by rw [unhide E] at e; cases e), rfl⟩⟩
end Go.Proofs.YtecfgbjnjgjkoaaGreatDoor
namespace Go.Proofs.YtecfgbjnjgjkoaaGreatDoor
open Go.ChangeShapes Go.WideShapes Go.ChangeAt Go.RowKit
set_option linter.unusedVariables false
set_option linter.unusedSimpArgs false
set_option maxRecDepth 20000
set_option maxHeartbeats 20000000

theorem takeWhile_stop {α : Type} (p : α → Bool) : ∀ (l : List α) (i : Nat), (∀ j x, j < i → l[j]? = some x → p x = true) → (∀ x, l[i]? = some x → p x = false) → l.takeWhile p = l.take i
  | [], i, _, _ => by simp
  | x :: l, 0, _, h => by
    rw [List.takeWhile_cons, if_neg (by rw [h x rfl]; decide)]
    rfl
  | x :: l, i + 1, h1, h2 => by
    rw [List.takeWhile_cons, if_pos (h1 0 x (by omega) rfl), List.take_succ_cons, takeWhile_stop p l i (fun j y hj hy => h1 (j + 1) y (by omega) (by simpa using hy)) (fun y hy => h2 y (by simpa using hy))]
/-- where a line's text ends -/
theorem lineT_at {T : List Nat} {i : Nat} (h1 : ∀ j, j < i → T.getD j 0 ≠ 13 ∧ T.getD j 0 ≠ 10) (hi : i ≤ 1024) (h2 : i = 1024 ∨ T.length ≤ i ∨ T.getD i 0 = 13 ∨ T.getD i 0 = 10) : Larder8.lineT T = T.take i := by
  unfold Larder8.lineT
  rw [takeWhile_stop _ (T.take 1024) i ?_ ?_]
  · rw [List.take_take, Nat.min_eq_left hi]
  · intro j x hj hx
    rw [List.getElem?_take] at hx
    split at hx
    · have := h1 j hj
      rw [List.getD_eq_getElem?_getD, hx] at this
      simpa using this
    · cases hx
  · intro x hx
    rw [List.getElem?_take] at hx
    split at hx
    · rename_i hlt
      have hlen := (List.getElem?_eq_some_iff.1 hx).1
      rcases h2 with q | q | q | q
      · omega
      · omega
      · rw [List.getD_eq_getElem?_getD, hx] at q
        simp at q
        simp [q]
      · rw [List.getD_eq_getElem?_getD, hx] at q
        simp at q
        simp [q]
    · cases hx
theorem lineP_at {T : List Nat} {i : Nat} (h : Larder8.lineT T = T.take i) (hi : i ≤ T.length) : Larder8.lineP T = (Larder8.endP (T.drop i)).map (fun _ => T.take i) := by
  unfold Larder8.lineP
  rw [h, List.length_take, Nat.min_eq_left hi]
/-- a line, as the document tells it -/
def LinD (w w' : World) (P : Larder8.St (List Nat)) (n : Nat) (va : Option Addr) (vn vc : Nat) (m st : Int) : Prop := StD P st ∧ Below w.heap.size w w' ∧ ∀ t r, P = .ok t r → m = (n : Int) - (r.length : Int) ∧ vn = t.length ∧ Gro w w' w.heap.size (.slice va vn vc) vn t
theorem Gro.from {w W w' : World} {v : Value} {n : Nat} {l : List Nat} (hW : Below w.heap.size w W) (h : Gro W w' W.heap.size v n l) : Gro w w' w.heap.size v n l :=
  ⟨hW.trans (h.bel.mono hW.size), Nat.le_trans hW.size h.sz, h.row, fun g hg => Nat.le_trans hW.size (h.own g hg), h.len⟩
theorem rlined_any (w : World) (a : Option Addr) (n cp : Nat) (T : List Nat) (hn : n = T.length) (hB : Bytes w a T) (hs : Small T) (hc : n ≤ cp) (hl : n ≤ 1073741824) :
    Calls Tryz.prog 70 #[.slice a n cp] w fun e w' => ∃ (va : Option Addr) (vn vc : Nat) (m st : Int), e = .returned (.tuple #[.slice va vn vc, .int .i64 m, .int .i64 st]) ∧ Hid (LinD w w' (Larder8.lineP T) n va vn vc m st) := by
  have HN := hide hn
  have CC : Hid (∀ W i x, Below w.heap.size w W → a = some x → i ≤ n → Calls Tryz.prog 60 #[.slice a i cp] W fun e w' => ∃ va vc, e = .returned (.slice va i vc) ∧ Hid (Gro w w' w.heap.size (.slice va i vc) i (T.take i))) := hide (fun W i x hW e hi => by
    subst e
    have h := copyR_any (cap := cp) (T.take i) (by rw [List.length_take]; omega) ((hB.below hW).first i)
    rw [show (T.take i).length = i by rw [List.length_take]; omega] at h
    exact h.mono (fun e w' ⟨h1, h2⟩ => ⟨_, _, h1, hide ((unhide h2).from hW)⟩))
  have HC : Hid (∀ k, k < n → ∃ b off, a = some ⟨b, off, none⟩ ∧ ∀ W, Below w.heap.size w W → ∀ k, k < n → W.cell? ⟨b, off + k, none⟩ = some (.int .u8 (T.getD k 0 : Nat))) := hide (fun k hk => by
    rcases hB with h | ⟨b, off, e, hb, hcell⟩
    · rw [h] at hn; simp at hn; omega
    · exact ⟨b, off, e, fun W hW k hk => by rw [hW.cell (show b < _ from hb)]; exact hcell k (by omega)⟩)
  clear hn hB hs
  go_enter Tryz.func70, Tryz.ntmps70
  go_wp2_with fail
  go_loopw [5] (fun iv wr => ∃ i : Nat, iv = .int .i64 (i : Nat) ∧ i ≤ n ∧ i ≤ 1025 ∧ Hid (Below w.heap.size w wr ∧ ∀ j, j < i → T.getD j 0 ≠ 13 ∧ T.getD j 0 ≠ 10)) (fun iv _ => n - (intOf iv).toNat)
  case atStart => exact ⟨0, rfl, Nat.zero_le _, by omega, hide ⟨Below.refl _ _, fun j hj => by omega⟩⟩
  case round =>
    obtain ⟨i, rfl, hi, hi2, HB⟩ := hrel
    rename World => wr
    rcases Nat.lt_or_ge i n with hlt | hge
    · have f1 : decide ((i : Int) < (n : Int)) = true := decide_eq_true (by omega)
      have g1 : (0 : Int) ≤ (i : Int) := by omega
      have g2 : (i : Int) < (n : Int) := by omega
      obtain ⟨b, off, rfl, hcell⟩ := unhide HC i hlt
      have ci := hcell wr (unhide HB).1 i hlt
      have z0 : ((i : Int) == (n : Int)) = false := by rw [beq_eq_false_iff_ne]; omega
      have HCE := hide hcell
      clear hcell HC
      obtain ⟨c, hcc⟩ : ∃ c, c = T.getD i 0 := ⟨_, rfl⟩
      rw [← hcc] at ci
      have HCC := hide hcc
      clear hcc
      rcases Nat.lt_or_ge 1024 i with h32 | h32
      · have f2 : decide ((i : Int) ≤ 1024) = false := decide_eq_false (by omega)
        have f3 : decide ((i : Int) > 1024) = true := decide_eq_true (by omega)
        have f3' : decide ((1024 : Int) < (i : Int)) = true := decide_eq_true (by omega)
        have E : Hid (Larder8.lineP T = .wrong) := hide (by
          have hT := unhide HN
          have hl := lineT_at (T := T) (i := 1024) (fun j hj => (unhide HB).2 j (by omega)) (Nat.le_refl _) (.inl rfl)
          have h5 := (unhide HB).2 1024 (by omega)
          rw [lineP_at hl (by omega), drop_at' (by omega)]
          cases T.drop (1024 + 1) with
          | nil => simp only [Larder8.endP]; rw [if_neg h5.1]; rfl
          | cons d r => simp only [Larder8.endP]; rw [if_neg (fun h => h5.1 h.1)]; rfl)
        have cas : c = 13 ∨ c = 10 ∨ (c ≠ 13 ∧ c ≠ 10) := by omega
        rcases cas with rfl | rfl | ⟨n13, n10⟩
        · go_wp2_with fail
          go_ret3
          exact ⟨none, 0, 0, 0, 2, rfl, hide ⟨by rw [unhide E]; exact .inl rfl, (unhide HB).1, fun t r e => (by rw [unhide E] at e; cases e)⟩⟩
        · go_wp2_with fail
          go_ret3
          exact ⟨none, 0, 0, 0, 2, rfl, hide ⟨by rw [unhide E]; exact .inl rfl, (unhide HB).1, fun t r e => (by rw [unhide E] at e; cases e)⟩⟩
        · have x13 : ((c : Int) != 13) = true := by rw [bne_iff_ne]; omega
          have x10 : ((c : Int) != 10) = true := by rw [bne_iff_ne]; omega
          have e13 : ((c : Int) == 13) = false := by rw [beq_eq_false_iff_ne]; omega
          have e10 : ((c : Int) == 10) = false := by rw [beq_eq_false_iff_ne]; omega
          go_wp2_with fail
          go_ret3
          exact ⟨none, 0, 0, 0, 2, rfl, hide ⟨by rw [unhide E]; exact .inl rfl, (unhide HB).1, fun t r e => (by rw [unhide E] at e; cases e)⟩⟩
      · have f2 : decide ((i : Int) ≤ 1024) = true := decide_eq_true (by omega)
        have f3 : decide ((i : Int) > 1024) = false := decide_eq_false (by omega)
        have f3' : decide ((1024 : Int) < (i : Int)) = false := decide_eq_false (by omega)
        have g5 : (i : Int) ≤ (cp : Int) := by omega
        have HLA : Hid (c = 13 ∨ c = 10 → Larder8.lineP T = (Larder8.endP (T.drop i)).map (fun _ => T.take i)) := hide (fun h => by
          have hT := unhide HN
          exact lineP_at (lineT_at (unhide HB).2 h32 (.inr (.inr (by rw [← unhide HCC]; exact h)))) (by omega))
        by_cases q13 : c = 13
        · subst q13
          by_cases q1 : i + 1 = n
          · have y1 : ((i : Int) + 1 == (n : Int)) = true := by rw [beq_iff_eq]; omega
            have y2 : decide ((i : Int) + 1 < (n : Int)) = false := decide_eq_false (by omega)
            have E : Hid (Larder8.lineP T = .short) := hide (by
              have hT := unhide HN
              rw [unhide HLA (.inl rfl), drop_at' (by omega), ← unhide HCC, List.drop_eq_nil_of_le (by omega)]
              rfl)
            go_wp2_with fail
            go_ret3
            exact ⟨none, 0, 0, 0, 1, rfl, hide ⟨by rw [unhide E]; rfl, (unhide HB).1, fun t r e => (by rw [unhide E] at e; cases e)⟩⟩
          · have y1 : ((i : Int) + 1 == (n : Int)) = false := by rw [beq_eq_false_iff_ne]; omega
            have y2 : decide ((i : Int) + 1 < (n : Int)) = true := decide_eq_true (by omega)
            have g3 : (0 : Int) ≤ (i : Int) + 1 := by omega
            have g4 : (i : Int) + 1 < (n : Int) := by omega
            have c2 := unhide HCE wr (unhide HB).1 (i + 1) (by omega)
            obtain ⟨e2, he2⟩ : ∃ e2, e2 = T.getD (i + 1) 0 := ⟨_, rfl⟩
            rw [← he2] at c2
            have HE2 := hide he2
            clear he2
            have HDR : Hid (T.drop i = 13 :: e2 :: T.drop (i + 2)) := hide (by rw [drop_two (by have := unhide HN; omega), ← unhide HCC, ← unhide HE2])
            by_cases q2 : e2 = 10
            · subst q2
              have E : Hid (Larder8.lineP T = .ok (T.take i) (T.drop (i + 2))) := hide (by rw [unhide HLA (.inl rfl), unhide HDR]; rfl)
              have CCi := hide (unhide CC wr i _ (unhide HB).1 rfl hi)
              go_wp2_with (go_at_call 60; with_reducible refine (unhide CCi).mono ?_; rintro e w5 ⟨va, vc, rfl, h5⟩)
              go_ret3
              refine ⟨va, i, vc, _, _, rfl, hide ⟨by rw [unhide E]; rfl, (unhide h5).bel, fun t r e => ?_⟩⟩
              rw [unhide E] at e
              cases e
              have hT := unhide HN
              exact ⟨by rw [List.length_drop]; omega, by rw [List.length_take]; omega, unhide h5⟩
            · have x10 : ((e2 : Int) != 10) = true := by rw [bne_iff_ne]; omega
              have x10' : ((e2 : Int) == 10) = false := by rw [beq_eq_false_iff_ne]; omega
              have E : Hid (Larder8.lineP T = .wrong) := hide (by
                rw [unhide HLA (.inl rfl), unhide HDR, show Larder8.endP (13 :: e2 :: T.drop (i + 2)) = .wrong by simp only [Larder8.endP]; rw [if_neg (fun h => q2 h.2)]]
                rfl)
              go_wp2_with fail
              go_ret3
              exact ⟨none, 0, 0, 0, 2, rfl, hide ⟨by rw [unhide E]; exact .inl rfl, (unhide HB).1, fun t r e => (by rw [unhide E] at e; cases e)⟩⟩
        · have x13 : ((c : Int) != 13) = true := by rw [bne_iff_ne]; omega
          have e13 : ((c : Int) == 13) = false := by rw [beq_eq_false_iff_ne]; omega
          by_cases q10 : c = 10
          · subst q10
            have E : Hid (Larder8.lineP T = .wrong) := hide (by
              have hT := unhide HN
              rw [unhide HLA (.inr rfl), drop_at' (by omega), ← unhide HCC]
              cases T.drop (i + 1) with
              | nil => rfl
              | cons d r => rfl)
            go_wp2_with fail
            go_ret3
            exact ⟨none, 0, 0, 0, 2, rfl, hide ⟨by rw [unhide E]; exact .inl rfl, (unhide HB).1, fun t r e => (by rw [unhide E] at e; cases e)⟩⟩
          · have x10 : ((c : Int) != 10) = true := by rw [bne_iff_ne]; omega
            have e10 : ((c : Int) == 10) = false := by rw [beq_eq_false_iff_ne]; omega
            go_wp2_with fail
            go_roundw
            case rel => exact ⟨i + 1, rfl, by omega, by omega, hide ⟨(unhide HB).1, fun j hj => by
              rcases Nat.lt_or_ge j i with q2 | q2
              · exact (unhide HB).2 j q2
              · obtain rfl : j = i := by omega
                rw [← unhide HCC]; exact ⟨q13, q10⟩⟩⟩
            case measure => simp [intOf]; omega
    · obtain rfl : i = n := by omega
      have f1 : decide ((i : Int) < (i : Int)) = false := decide_eq_false (by omega)
      rcases Nat.lt_or_ge 1024 i with h32 | h32
      · have f3 : decide ((i : Int) > 1024) = true := decide_eq_true (by omega)
        have f3' : decide ((1024 : Int) < (i : Int)) = true := decide_eq_true (by omega)
        have E : Hid (Larder8.lineP T = .wrong) := hide (by
          have hT := unhide HN
          have hl := lineT_at (T := T) (i := 1024) (fun j hj => (unhide HB).2 j (by omega)) (Nat.le_refl _) (.inl rfl)
          have h5 := (unhide HB).2 1024 (by omega)
          rw [lineP_at hl (by omega), drop_at' (by omega)]
          cases T.drop (1024 + 1) with
          | nil => simp only [Larder8.endP]; rw [if_neg h5.1]; rfl
          | cons d r => simp only [Larder8.endP]; rw [if_neg (fun h => h5.1 h.1)]; rfl)
        go_wp2_with fail
        go_ret3
        exact ⟨none, 0, 0, 0, 2, rfl, hide ⟨by rw [unhide E]; exact .inl rfl, (unhide HB).1, fun t r e => (by rw [unhide E] at e; cases e)⟩⟩
      · have f3 : decide ((i : Int) > 1024) = false := decide_eq_false (by omega)
        have f3' : decide ((1024 : Int) < (i : Int)) = false := decide_eq_false (by omega)
        have E : Hid (Larder8.lineP T = .short) := hide (by
          have hT := unhide HN
          rw [lineP_at (lineT_at (unhide HB).2 h32 (.inr (.inl (by omega)))) (by omega), List.drop_eq_nil_of_le (by omega)]
          rfl)
        go_wp2_with fail
        go_ret3
        exact ⟨none, 0, 0, 0, 1, rfl, hide ⟨by rw [unhide E]; rfl, (unhide HB).1, fun t r e => (by rw [unhide E] at e; cases e)⟩⟩
end Go.Proofs.YtecfgbjnjgjkoaaGreatDoor
namespace Go.Proofs.YtecfgbjnjgjkoaaGreatDoor
open Go.ChangeShapes Go.WideShapes Go.ChangeAt Go.RowKit
set_option linter.unusedVariables false
set_option linter.unusedSimpArgs false
set_option maxRecDepth 20000
set_option maxHeartbeats 8000000

theorem results_box3 {P : Program} {fn : Func} {p q s : Tmp} {ty : TypeId} (h : fn.results = #[.cell p ty, .tmp q, .tmp s]) (tmps : Array Value) (w : World) (g : Nat) (t : TypeId) (cs : Array Value) (fr : Nat × Nat) (d : TypeDesc)
    (hp : tmps.getD p undef = .pointer (some ⟨g, 0, none⟩)) (hg : w.heap[g]? = some (.cells cs t fr))
    (hu : P.underlying ty = some d) (hd : (match d with | .struct _ | .array _ _ => true | _ => false) = true) (hi : (P.info? ty).map (·.size) = some cs.size) (v u : Value) (hv : tmps.getD q undef = v) (hs : tmps.getD s undef = u) :
    (results fn tmps).run P w = .ok (.tuple #[.agg cs, v, u]) w := by
  have hp' : tmps[p]?.getD undef = .pointer (some ⟨g, 0, none⟩) := by simpa using hp
  have hv' : tmps[q]?.getD undef = v := by simpa using hv
  have hs' : tmps[s]?.getD undef = u := by simpa using hs
  simp [results, h, hp', hv', hs', asAddr, run_loadVar_row w g t ty cs fr d hg hu hd hi]
theorem item_end {W : World} {g : Nat} {v0 v1 v2 v3 : Value} (N st : Int) (tmps : Array Value) (hg : W.heap[g]? = some (.cells #[v0, v1, v2, v3] 31 (0, 0))) (h2 : tmps.getD 4 undef = .pointer (some ⟨g, 0, none⟩)) (h3 : tmps.getD 5 undef = .int .i64 N) (h4 : tmps.getD 6 undef = .int .i64 st) :
    (results Tryz.f53 tmps).run Tryz.prog W = .ok (.tuple #[.agg #[v0, v1, v2, v3], .int .i64 N, .int .i64 st]) W := by
  refine results_box3 (p := 4) (q := 5) (s := 6) (ty := 31) rfl tmps _ g 31 _ (0, 0) _ h2 hg Tryz.underlying31 rfl (by kernel_rfl) _ _ h3 h4
/-- what item answers -/
def ItEnd (w : World) (d n : Nat) (P : Larder8.St (Tr d)) (e : Ending) (w' : World) : Prop := ∃ (k0 k1 : Int) (ta : Option Addr) (tn tc : Nat) (la : Option Addr) (ln lc : Nat) (m st : Int), e = .returned (.tuple #[.agg #[.int .i64 k0, .int .i64 k1, .slice ta tn tc, .slice la ln lc], .int .i64 m, .int .i64 st]) ∧ Hid (StD P st ∧ Below w.heap.size w w' ∧ ∀ x r, P = .ok x r → m = (n : Int) - (r.length : Int) ∧ DrAt w' d (fun b => w.heap.size ≤ b) x (.int .i64 k0) (.int .i64 k1) (.slice ta tn tc) (.slice la ln lc))
/-- the answer's box, beside all that was there -/
structure Ix (w W : World) : Prop where
  k : Below w.heap.size w W
  box : W.heap[w.heap.size]? = some (.cells #[.int .i64 0, .int .i64 0, .slice none 0 0, .slice none 0 0] 31 (0, 0))
theorem Ix.cell {w W : World} (h : Ix w W) (j : Nat) (v : Value) (hv : (#[.int .i64 0, .int .i64 0, .slice none 0 0, .slice none 0 0] : Array Value)[j]? = some v) : W.cell? ⟨w.heap.size, j, none⟩ = some v := by rw [cell_of_row _ _ _ _ _ _ h.box]; exact hv
theorem Ix.froz {w W : World} (h : Ix w W) (j : Nat) : W.frozen? ⟨w.heap.size, j, none⟩ = false := by simp only [World.frozen?, h.box]; simp
theorem Ix.new (w : World) : Ix w (w.alloc (.cells #[.int .i64 0, .int .i64 0, .slice none 0 0, .slice none 0 0] 31)) := ⟨(Below.refl _ _).alloc (Nat.le_refl _) _, heap_alloc_new _ _⟩
theorem Ix.next {w W W' : World} (h : Ix w W) (hb : Below W.heap.size W W') : Ix w W' := ⟨h.k.trans (hb.mono h.k.size), (hb.block _ (block_lt h.box)).trans h.box⟩
theorem Ix.boxed {w W : World} (h : Ix w W) (v0 v1 v2 v3 : Value) : Below w.heap.size w ((((W.setCell ⟨w.heap.size, 0, none⟩ v0).setCell ⟨w.heap.size, 1, none⟩ v1).setCell ⟨w.heap.size, 2, none⟩ v2).setCell ⟨w.heap.size, 3, none⟩ v3) := by
  refine ⟨h.k.os, h.k.tape, h.k.output, by simpa using h.k.size, fun k hk => ?_⟩
  rw [Bk.setCell_else _ _ _ _ _ (by omega), Bk.setCell_else _ _ _ _ _ (by omega), Bk.setCell_else _ _ _ _ _ (by omega), Bk.setCell_else _ _ _ _ _ (by omega)]
  exact h.k.block k hk
theorem Ix.own {w W : World} (h : Ix w W) {v : Value} {l : List Nat} (ho : OwnB W (w.heap.size + 1) v l) (v0 v1 v2 v3 : Value) : OwnB ((((W.setCell ⟨w.heap.size, 0, none⟩ v0).setCell ⟨w.heap.size, 1, none⟩ v1).setCell ⟨w.heap.size, 2, none⟩ v2).setCell ⟨w.heap.size, 3, none⟩ v3) w.heap.size v l := by
  refine (ho.same (fun g hg => ?_)).mono (Nat.le_succ _)
  have := ho.ge g hg
  rw [Bk.setCell_else _ _ _ _ _ (by omega), Bk.setCell_else _ _ _ _ _ (by omega), Bk.setCell_else _ _ _ _ _ (by omega), Bk.setCell_else _ _ _ _ _ (by omega)]
theorem Gro.ownB {w W : World} {base n : Nat} {v : Value} {l : List Nat} (h : Gro w W base v n l) : OwnB W base v l := by
  have hl := h.len
  refine ⟨by rw [cellsOf_length]; omega, ?_⟩
  rcases h.row with ⟨e, h0⟩ | ⟨g, cap, cur, e, hg, hn, hm, hs, hh⟩
  · exact .inl ⟨e, by omega⟩
  · refine .inr ⟨g, cap, cur, by rw [← hl]; exact e, h.own g (by rw [e]; simp [Value.ownBlock]), hg, by omega, hm, hs, ?_⟩
    apply List.ext_getElem?
    intro k
    rw [List.getElem?_take]
    by_cases q : k < l.length * 1
    · rw [if_pos q]
      have h1 := hh k (by omega)
      have hk' : k < l.length := by omega
      unfold cellsOf
      rw [List.getElem?_map, List.getElem?_eq_getElem hk']
      have h2 : cur.toList[k]? = cur[k]? := by simp
      rw [h2, h1]
      unfold byV
      rw [List.getD_eq_getElem?_getD, List.getElem?_eq_getElem hk']
      rfl
    · rw [if_neg q]
      unfold cellsOf
      rw [List.getElem?_map, List.getElem?_eq_none (by omega)]
      rfl
theorem map_StD {α β : Type} (f : α → β) {P : Larder8.St α} {st : Int} (h : StD P st) : StD (P.map f) st := by cases P <;> exact h
theorem wrap_one {m : Int} {q : Nat} (h : m = (q : Int)) (hq : q ≤ 2147483648) : IntKind.i64.wrap (1 + m) = (q : Int) + 1 := by rw [IntKind.wrap_i64]; omega
theorem item_none (w : World) (a : Option Addr) (cp d : Nat) (I : Int) : Calls Tryz.prog 53 #[.slice a 0 cp, .int .i64 I] w (ItEnd w (d + 1) 0 .short) := by
  go_enter Tryz.func53, Tryz.ntmps53
  go_wp2_with fail
  refine bodyPost_ret (item_end _ _ _ (heap_alloc_new _ _) rfl rfl rfl) rfl ?_
  exact ⟨0, 0, none, 0, 0, none, 0, 0, 0, 1, rfl, hide ⟨rfl, (Below.refl _ _).alloc (Nat.le_refl _) _, fun x r e => (by cases e)⟩⟩
theorem LinD.bel {w w' : World} {P : Larder8.St (List Nat)} {n : Nat} {va : Option Addr} {vn vc : Nat} {m st : Int} (h : LinD w w' P n va vn vc m st) : Below w.heap.size w w' := h.2.1
theorem line_told {w w3 : World} {n d : Nat} {K : Int} {T : List Nat} {va : Option Addr} {vn vc : Nat} {m st : Int} (hs : Small T) (hn : n = T.length + 1) (hl : n ≤ 1073741824) (B3 : Ix w w3) (h3 : LinD (w.alloc (.cells #[.int .i64 0, .int .i64 0, .slice none 0 0, .slice none 0 0] 31)) w3 (Larder8.lineP T) (n - 1) va vn vc m st) {x : Tr (d + 1)} {r : List Nat} (e : (Larder8.lineP T).map (fun t => (mkR K 0 t [] : Tr (d + 1))) = .ok x r) :
    wrap64 (1 + m) = (n : Int) - (r.length : Int) ∧ DrAt ((((w3.setCell ⟨w.heap.size, 0, none⟩ (.int .i64 K)).setCell ⟨w.heap.size, 1, none⟩ (.int .i64 0)).setCell ⟨w.heap.size, 2, none⟩ (.slice va vn vc)).setCell ⟨w.heap.size, 3, none⟩ (.slice none 0 0)) (d + 1) (fun b => w.heap.size ≤ b) x (.int .i64 K) (.int .i64 0) (.slice va vn vc) (.slice none 0 0) := by
  obtain ⟨t, h1, rfl⟩ := Larder8.map_ok e
  obtain ⟨h4, h5, h6⟩ := h3.2.2 t r h1
  obtain ⟨q1, q2, q3⟩ := Larder8.lineP_text h1
  have hlen := congrArg List.length q1
  simp only [List.length_append, List.length_cons, List.length_nil] at hlen
  refine ⟨by unfold wrap64; omega, DrAt.leaf (B3.own (h6.ownB.mono (by simp)) _ _ _ _) ?_⟩
  intro i hi
  have := hs i (by omega)
  rw [← q1, List.append_assoc] at this
  rw [List.getD_eq_getElem?_getD, List.getElem?_append_left hi, ← List.getD_eq_getElem?_getD] at this
  exact this
theorem item_status (w : World) (a : Option Addr) (n cp d : Nat) (r : List Nat) (I : Int) (h : Rst w a n cp (43 :: r)) (hs : Small r) (hl : n ≤ 1073741824) :
    Calls Tryz.prog 53 #[.slice a n cp, .int .i64 I] w (ItEnd w (d + 1) n ((Larder8.lineP r).map (fun t => (mkR 1 0 t [])))) := by
  have hlen := h.len
  have hle := h.le
  have htop := h.top
  simp only [List.length_cons] at hlen
  obtain ⟨b, off, rfl, hbl, hcell⟩ := h.at (show 0 < n by omega)
  have k1 : Below w.heap.size w (w.alloc (.cells #[.int .i64 0, .int .i64 0, .slice none 0 0, .slice none 0 0] 31)) := (Below.refl _ _).alloc (Nat.le_refl _) _
  have h1 := h.below k1
  have d1 : (w.alloc (.cells #[.int .i64 0, .int .i64 0, .slice none 0 0, .slice none 0 0] 31)).cell? ⟨b, off, none⟩ = some (.int .u8 43) := by
    rw [k1.cell (show b < _ from hbl)]
    exact hcell 0 (by omega)
  have q0 : (0 : Int) < (n : Int) := by omega
  have q1 : (1 : Int) ≤ (n : Int) := by omega
  have q2 : (1 : Int) ≤ (cp : Int) := by omega
  have q4 : ((n : Int) == 0) = false := by rw [beq_eq_false_iff_ne]; omega
  have B0 := hide (Ix.new w)
  have HR : Hid (∀ a', (a' = some ⟨b, off + 1, none⟩ ∨ cp = 1 ∧ a' = some ⟨b, off, none⟩) → Rst (w.alloc (.cells #[.int .i64 0, .int .i64 0, .slice none 0 0, .slice none 0 0] 31)) a' (n - 1) (cp - 1) r) := hide (fun a' ha => by
    rcases ha with e | ⟨e1, e2⟩
    · rw [e]; exact h1.drop 1 (by omega)
    · rw [e2]; have := h1.brim 1 e1; exact this)
  have HN := hide hlen
  by_cases hcp : cp = 1
  · obtain rfl := hcp
    have H2 := hide (unhide HR (some ⟨b, off, none⟩) (.inr ⟨rfl, rfl⟩))
    rw [Nat.sub_self] at H2
    have CP := hide (rlined_any _ (some ⟨b, off, none⟩) (n - 1) 0 r (unhide H2).len (unhide H2).bytes hs (unhide H2).le (by omega))
    clear h h1 hcell k1 hlen hle htop HR H2
    go_enter Tryz.func53, Tryz.ntmps53
    go_wp2_with (first
      | (go_at_call 70; with_reducible refine (unhide CP).mono ?_; rintro e w3 ⟨va, vn, vc, m, st, rfl, h3⟩; have B3 := hide ((unhide B0).next (LinD.bel (unhide h3))); have z0 := (unhide B3).cell 0 _ rfl; have y0 := (unhide B3).froz 0; have z1 := (unhide B3).cell 1 _ rfl; have y1 := (unhide B3).froz 1; have z2 := (unhide B3).cell 2 _ rfl; have y2 := (unhide B3).froz 2; have z3 := (unhide B3).cell 3 _ rfl; have y3 := (unhide B3).froz 3))
    refine bodyPost_ret (item_end _ _ _ (store4 (unhide B3).box rfl _ _ _ _) rfl rfl rfl) rfl ?_
    exact ⟨1, 0, va, vn, vc, none, 0, 0, _, st, rfl, hide ⟨map_StD _ (unhide h3).1, (unhide B3).boxed _ _ _ _, fun x r' e => line_told hs (unhide HN) hl (unhide B3) (unhide h3) e⟩⟩
  · have hne : (cp = 1) = False := eq_false hcp
    clear hcp
    have H2 := hide (unhide HR (some ⟨b, off + 1, none⟩) (.inl rfl))
    have CP := hide (rlined_any _ (some ⟨b, off + 1, none⟩) (n - 1) (cp - 1) r (unhide H2).len (unhide H2).bytes hs (unhide H2).le (by omega))
    clear h h1 hcell k1 hlen hle htop HR H2
    go_enter Tryz.func53, Tryz.ntmps53
    go_wp2_with (first
      | (go_at_call 70; with_reducible refine (unhide CP).mono ?_; rintro e w3 ⟨va, vn, vc, m, st, rfl, h3⟩; have B3 := hide ((unhide B0).next (LinD.bel (unhide h3))); have z0 := (unhide B3).cell 0 _ rfl; have y0 := (unhide B3).froz 0; have z1 := (unhide B3).cell 1 _ rfl; have y1 := (unhide B3).froz 1; have z2 := (unhide B3).cell 2 _ rfl; have y2 := (unhide B3).froz 2; have z3 := (unhide B3).cell 3 _ rfl; have y3 := (unhide B3).froz 3))
    refine bodyPost_ret (item_end _ _ _ (store4 (unhide B3).box rfl _ _ _ _) rfl rfl rfl) rfl ?_
    exact ⟨1, 0, va, vn, vc, none, 0, 0, _, st, rfl, hide ⟨map_StD _ (unhide h3).1, (unhide B3).boxed _ _ _ _, fun x r' e => line_told hs (unhide HN) hl (unhide B3) (unhide h3) e⟩⟩
theorem item_error (w : World) (a : Option Addr) (n cp d : Nat) (r : List Nat) (I : Int) (h : Rst w a n cp (45 :: r)) (hs : Small r) (hl : n ≤ 1073741824) :
    Calls Tryz.prog 53 #[.slice a n cp, .int .i64 I] w (ItEnd w (d + 1) n ((Larder8.lineP r).map (fun t => (mkR 2 0 t [])))) := by
  have hlen := h.len
  have hle := h.le
  have htop := h.top
  simp only [List.length_cons] at hlen
  obtain ⟨b, off, rfl, hbl, hcell⟩ := h.at (show 0 < n by omega)
  have k1 : Below w.heap.size w (w.alloc (.cells #[.int .i64 0, .int .i64 0, .slice none 0 0, .slice none 0 0] 31)) := (Below.refl _ _).alloc (Nat.le_refl _) _
  have h1 := h.below k1
  have d1 : (w.alloc (.cells #[.int .i64 0, .int .i64 0, .slice none 0 0, .slice none 0 0] 31)).cell? ⟨b, off, none⟩ = some (.int .u8 45) := by
    rw [k1.cell (show b < _ from hbl)]
    exact hcell 0 (by omega)
  have q0 : (0 : Int) < (n : Int) := by omega
  have q1 : (1 : Int) ≤ (n : Int) := by omega
  have q2 : (1 : Int) ≤ (cp : Int) := by omega
  have q4 : ((n : Int) == 0) = false := by rw [beq_eq_false_iff_ne]; omega
  have B0 := hide (Ix.new w)
  have HR : Hid (∀ a', (a' = some ⟨b, off + 1, none⟩ ∨ cp = 1 ∧ a' = some ⟨b, off, none⟩) → Rst (w.alloc (.cells #[.int .i64 0, .int .i64 0, .slice none 0 0, .slice none 0 0] 31)) a' (n - 1) (cp - 1) r) := hide (fun a' ha => by
    rcases ha with e | ⟨e1, e2⟩
    · rw [e]; exact h1.drop 1 (by omega)
    · rw [e2]; have := h1.brim 1 e1; exact this)
  have HN := hide hlen
  by_cases hcp : cp = 1
  · obtain rfl := hcp
    have H2 := hide (unhide HR (some ⟨b, off, none⟩) (.inr ⟨rfl, rfl⟩))
    rw [Nat.sub_self] at H2
    have CP := hide (rlined_any _ (some ⟨b, off, none⟩) (n - 1) 0 r (unhide H2).len (unhide H2).bytes hs (unhide H2).le (by omega))
    clear h h1 hcell k1 hlen hle htop HR H2
    go_enter Tryz.func53, Tryz.ntmps53
    go_wp2_with (first
      | (go_at_call 70; with_reducible refine (unhide CP).mono ?_; rintro e w3 ⟨va, vn, vc, m, st, rfl, h3⟩; have B3 := hide ((unhide B0).next (LinD.bel (unhide h3))); have z0 := (unhide B3).cell 0 _ rfl; have y0 := (unhide B3).froz 0; have z1 := (unhide B3).cell 1 _ rfl; have y1 := (unhide B3).froz 1; have z2 := (unhide B3).cell 2 _ rfl; have y2 := (unhide B3).froz 2; have z3 := (unhide B3).cell 3 _ rfl; have y3 := (unhide B3).froz 3))
    refine bodyPost_ret (item_end _ _ _ (store4 (unhide B3).box rfl _ _ _ _) rfl rfl rfl) rfl ?_
    exact ⟨2, 0, va, vn, vc, none, 0, 0, _, st, rfl, hide ⟨map_StD _ (unhide h3).1, (unhide B3).boxed _ _ _ _, fun x r' e => line_told hs (unhide HN) hl (unhide B3) (unhide h3) e⟩⟩
  · have hne : (cp = 1) = False := eq_false hcp
    clear hcp
    have H2 := hide (unhide HR (some ⟨b, off + 1, none⟩) (.inl rfl))
    have CP := hide (rlined_any _ (some ⟨b, off + 1, none⟩) (n - 1) (cp - 1) r (unhide H2).len (unhide H2).bytes hs (unhide H2).le (by omega))
    clear h h1 hcell k1 hlen hle htop HR H2
    go_enter Tryz.func53, Tryz.ntmps53
    go_wp2_with (first
      | (go_at_call 70; with_reducible refine (unhide CP).mono ?_; rintro e w3 ⟨va, vn, vc, m, st, rfl, h3⟩; have B3 := hide ((unhide B0).next (LinD.bel (unhide h3))); have z0 := (unhide B3).cell 0 _ rfl; have y0 := (unhide B3).froz 0; have z1 := (unhide B3).cell 1 _ rfl; have y1 := (unhide B3).froz 1; have z2 := (unhide B3).cell 2 _ rfl; have y2 := (unhide B3).froz 2; have z3 := (unhide B3).cell 3 _ rfl; have y3 := (unhide B3).froz 3))
    refine bodyPost_ret (item_end _ _ _ (store4 (unhide B3).box rfl _ _ _ _) rfl rfl rfl) rfl ?_
    exact ⟨2, 0, va, vn, vc, none, 0, 0, _, st, rfl, hide ⟨map_StD _ (unhide h3).1, (unhide B3).boxed _ _ _ _, fun x r' e => line_told hs (unhide HN) hl (unhide B3) (unhide h3) e⟩⟩
theorem item_num (w : World) (a : Option Addr) (n cp d : Nat) (r : List Nat) (I : Int) (h : Rst w a n cp (58 :: r)) (hs : Small r) (hl : n ≤ 1073741824) :
    Calls Tryz.prog 53 #[.slice a n cp, .int .i64 I] w (ItEnd w (d + 1) n ((Larder8.numP (-9223372036854775808) 9223372036854775807 r).map (fun v => (mkR 3 v [] [])))) := by
  have hlen := h.len
  have hle := h.le
  have htop := h.top
  simp only [List.length_cons] at hlen
  obtain ⟨b, off, rfl, hbl, hcell⟩ := h.at (show 0 < n by omega)
  have k1 : Below w.heap.size w (w.alloc (.cells #[.int .i64 0, .int .i64 0, .slice none 0 0, .slice none 0 0] 31)) := (Below.refl _ _).alloc (Nat.le_refl _) _
  have h1 := h.below k1
  have d1 : (w.alloc (.cells #[.int .i64 0, .int .i64 0, .slice none 0 0, .slice none 0 0] 31)).cell? ⟨b, off, none⟩ = some (.int .u8 58) := by
    rw [k1.cell (show b < _ from hbl)]
    exact hcell 0 (by omega)
  have q0 : (0 : Int) < (n : Int) := by omega
  have q1 : (1 : Int) ≤ (n : Int) := by omega
  have q2 : (1 : Int) ≤ (cp : Int) := by omega
  have q4 : ((n : Int) == 0) = false := by rw [beq_eq_false_iff_ne]; omega
  have B0 := hide (Ix.new w)
  have HR : Hid (∀ a', (a' = some ⟨b, off + 1, none⟩ ∨ cp = 1 ∧ a' = some ⟨b, off, none⟩) → Rst (w.alloc (.cells #[.int .i64 0, .int .i64 0, .slice none 0 0, .slice none 0 0] 31)) a' (n - 1) (cp - 1) r) := hide (fun a' ha => by
    rcases ha with e | ⟨e1, e2⟩
    · rw [e]; exact h1.drop 1 (by omega)
    · rw [e2]; have := h1.brim 1 e1; exact this)
  have HN := hide hlen
  by_cases hcp : cp = 1
  · obtain rfl := hcp
    have H2 := hide (unhide HR (some ⟨b, off, none⟩) (.inr ⟨rfl, rfl⟩))
    rw [Nat.sub_self] at H2
    have CP := hide (rnumber_any _ (some ⟨b, off, none⟩) (n - 1) 0 r (-9223372036854775808) 9223372036854775807 (unhide H2).len (unhide H2).bytes hs (unhide H2).le (by omega))
    clear h h1 hcell k1 hlen hle htop HR H2
    go_enter Tryz.func53, Tryz.ntmps53
    go_wp2_with (first
      | (go_at_call 71; with_reducible refine (unhide CP).mono ?_; rintro e w3 ⟨v, m, st, rfl, h3⟩; have B3 := hide ((unhide B0).next (unhide h3).2); have z0 := (unhide B3).cell 0 _ rfl; have y0 := (unhide B3).froz 0; have z1 := (unhide B3).cell 1 _ rfl; have y1 := (unhide B3).froz 1; have z2 := (unhide B3).cell 2 _ rfl; have y2 := (unhide B3).froz 2; have z3 := (unhide B3).cell 3 _ rfl; have y3 := (unhide B3).froz 3))
    refine bodyPost_ret (item_end _ _ _ (store4 (unhide B3).box rfl _ _ _ _) rfl rfl rfl) rfl ?_
    refine ⟨3, v, none, 0, 0, none, 0, 0, _, st, rfl, hide ⟨map_StD _ (unhide h3).1.1, (unhide B3).boxed _ _ _ _, fun x r' e => ?_⟩⟩
    obtain ⟨y, e1, rfl⟩ := Larder8.map_ok e
    obtain ⟨rfl, e2⟩ := (unhide h3).1.2 y r' e1
    have hT := unhide HN
    have hlen := congrArg List.length (Larder8.numP_text e1).1
    simp only [List.length_append, List.length_cons, List.length_nil] at hlen
    exact ⟨by unfold wrap64; omega, DrAt.leaf (OwnB.nil _ _) small_nil⟩
  · have hne : (cp = 1) = False := eq_false hcp
    clear hcp
    have H2 := hide (unhide HR (some ⟨b, off + 1, none⟩) (.inl rfl))
    have CP := hide (rnumber_any _ (some ⟨b, off + 1, none⟩) (n - 1) (cp - 1) r (-9223372036854775808) 9223372036854775807 (unhide H2).len (unhide H2).bytes hs (unhide H2).le (by omega))
    clear h h1 hcell k1 hlen hle htop HR H2
    go_enter Tryz.func53, Tryz.ntmps53
    go_wp2_with (first
      | (go_at_call 71; with_reducible refine (unhide CP).mono ?_; rintro e w3 ⟨v, m, st, rfl, h3⟩; have B3 := hide ((unhide B0).next (unhide h3).2); have z0 := (unhide B3).cell 0 _ rfl; have y0 := (unhide B3).froz 0; have z1 := (unhide B3).cell 1 _ rfl; have y1 := (unhide B3).froz 1; have z2 := (unhide B3).cell 2 _ rfl; have y2 := (unhide B3).froz 2; have z3 := (unhide B3).cell 3 _ rfl; have y3 := (unhide B3).froz 3))
    refine bodyPost_ret (item_end _ _ _ (store4 (unhide B3).box rfl _ _ _ _) rfl rfl rfl) rfl ?_
    refine ⟨3, v, none, 0, 0, none, 0, 0, _, st, rfl, hide ⟨map_StD _ (unhide h3).1.1, (unhide B3).boxed _ _ _ _, fun x r' e => ?_⟩⟩
    obtain ⟨y, e1, rfl⟩ := Larder8.map_ok e
    obtain ⟨rfl, e2⟩ := (unhide h3).1.2 y r' e1
    have hT := unhide HN
    have hlen := congrArg List.length (Larder8.numP_text e1).1
    simp only [List.length_append, List.length_cons, List.length_nil] at hlen
    exact ⟨by unfold wrap64; omega, DrAt.leaf (OwnB.nil _ _) small_nil⟩
theorem item_other (w : World) (a : Option Addr) (n cp c d : Nat) (r : List Nat) (I : Int) (h : Rst w a n cp (c :: r)) (hl : n ≤ 1073741824) (m43 : c ≠ 43) (m45 : c ≠ 45) (m58 : c ≠ 58) (m36 : c ≠ 36) (m42 : c ≠ 42) :
    Calls Tryz.prog 53 #[.slice a n cp, .int .i64 I] w (ItEnd w (d + 1) n .wrong) := by
  have hlen := h.len
  have hle := h.le
  have htop := h.top
  simp only [List.length_cons] at hlen
  obtain ⟨b, off, rfl, hbl, hcell⟩ := h.at (show 0 < n by omega)
  have k1 : Below w.heap.size w (w.alloc (.cells #[.int .i64 0, .int .i64 0, .slice none 0 0, .slice none 0 0] 31)) := (Below.refl _ _).alloc (Nat.le_refl _) _
  have h1 := h.below k1
  have d1 : (w.alloc (.cells #[.int .i64 0, .int .i64 0, .slice none 0 0, .slice none 0 0] 31)).cell? ⟨b, off, none⟩ = some (.int .u8 (c : Nat)) := by
    rw [k1.cell (show b < _ from hbl)]
    exact hcell 0 (by omega)
  have q0 : (0 : Int) < (n : Int) := by omega
  have q1 : (1 : Int) ≤ (n : Int) := by omega
  have q2 : (1 : Int) ≤ (cp : Int) := by omega
  have q4 : ((n : Int) == 0) = false := by rw [beq_eq_false_iff_ne]; omega
  have B0 := hide (Ix.new w)
  have HR : Hid (∀ a', (a' = some ⟨b, off + 1, none⟩ ∨ cp = 1 ∧ a' = some ⟨b, off, none⟩) → Rst (w.alloc (.cells #[.int .i64 0, .int .i64 0, .slice none 0 0, .slice none 0 0] 31)) a' (n - 1) (cp - 1) r) := hide (fun a' ha => by
    rcases ha with e | ⟨e1, e2⟩
    · rw [e]; exact h1.drop 1 (by omega)
    · rw [e2]; have := h1.brim 1 e1; exact this)
  have HN := hide hlen
  have e1 : ((c : Int) == 43) = false := by rw [beq_eq_false_iff_ne]; omega
  have e2 : ((c : Int) == 45) = false := by rw [beq_eq_false_iff_ne]; omega
  have e3 : ((c : Int) == 58) = false := by rw [beq_eq_false_iff_ne]; omega
  have e4 : ((c : Int) == 36) = false := by rw [beq_eq_false_iff_ne]; omega
  have e5 : ((c : Int) == 42) = false := by rw [beq_eq_false_iff_ne]; omega
  clear h h1 hcell k1 hlen hle htop HR
  go_enter Tryz.func53, Tryz.ntmps53
  go_wp2_with fail
  refine bodyPost_ret (item_end _ _ _ (heap_alloc_new _ _) rfl rfl rfl) rfl ?_
  exact ⟨0, 0, none, 0, 0, none, 0, 0, 0, 2, rfl, hide ⟨.inl rfl, (Below.refl _ _).alloc (Nat.le_refl _) _, fun x r e => (by cases e)⟩⟩
end Go.Proofs.YtecfgbjnjgjkoaaGreatDoor
