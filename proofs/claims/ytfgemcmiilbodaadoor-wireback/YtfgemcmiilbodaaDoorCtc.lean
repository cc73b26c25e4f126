/- bytes.IndexAny with the two bytes of a line's end: the short road. -/
import Derived.Test.YtfgemcmiilbodaaDoorCtb
namespace Go.Proofs.YtfgemcmiilbodaaDoor
open Go.ChangeShapes Go.WideShapes Go.ChangeAt Go.RowKit
set_option linter.unusedVariables false
set_option linter.unusedSimpArgs false
set_option maxRecDepth 20000
set_option maxHeartbeats 8000000

theorem eol_is (E : ByteArray) (w : World) (M : Int) (hm : w.cell? ⟨0, 0, none⟩ = some (.int .i64 M)) (h3 : 3 ≤ E.size) (hM : (E.size : Int) ≤ M) : (Extern.BytealgIndex.index #[.string ⟨#[13, 10]⟩, .string E]).run Tryd.prog w = .ok (.int .i64 (-1)) w := by
  rw [Lib.run_indexString ⟨#[13, 10]⟩ E w 0 M (by kernel_rfl) hm (by omega) hM (by decide), ← Lib.find_index ⟨#[13, 10]⟩ E (by omega)]
  have : (⟨#[13, 10]⟩ : ByteArray).size + 1 - E.size = 0 := by show 2 + 1 - E.size = 0; omega
  rw [this]
  rfl
theorem crlf_step (T : List Nat) (i : Nat) (h : crlf (T.take i) = false) (k : Nat) (hk : ∀ j, i ≤ j → j < i + k → (T.getD j 0 == 13 || T.getD j 0 == 10) = false) (hl : i + k ≤ T.length) : crlf (T.take (i + k)) = false := by
  induction k with
  | zero => exact h
  | succ k ih =>
    have h1 := ih (fun j ha hb => hk j ha (by omega)) (by omega)
    unfold crlf at h1 ⊢
    rw [← Nat.add_assoc, List.take_add_one, List.any_append, h1]
    have := hk (i + k) (by omega) (by omega)
    rw [List.getElem?_eq_getElem (by omega)]
    rw [List.getD_eq_getElem?_getD, List.getElem?_eq_getElem (by omega)] at this
    simpa using this
theorem crlf_hit (T : List Nat) (i : Nat) (hi : i < T.length) (h : (T.getD i 0 == 13 || T.getD i 0 == 10) = true) : crlf T = true := by
  unfold crlf
  rw [List.any_eq_true]
  refine ⟨T.getD i 0, ?_, h⟩
  rw [List.getD_eq_getElem?_getD, List.getElem?_eq_getElem hi]
  exact List.getElem_mem hi
def UOk (w : World) : Prop := Lib.Utf8Tabs 1 2 w ∧ (∃ M : Int, w.cell? ⟨0, 0, none⟩ = some (.int .i64 M)) ∧ 2 < w.heap.size
theorem UOk.below : StaysB UOk := fun w w' ⟨⟨h1, h2⟩, ⟨M, hM⟩, hs⟩ hb => ⟨⟨fun c hc => by rw [hb.cell (p := ⟨1, c, none⟩) (by show 1 < _; omega)]; exact h1 c hc, fun i hi => ⟨by rw [hb.cell (p := ⟨2, 2 * i, none⟩) (by show 2 < _; omega)]; exact (h2 i hi).1, by rw [hb.cell (p := ⟨2, 2 * i + 1, none⟩) (by show 2 < _; omega)]; exact (h2 i hi).2⟩⟩, ⟨M, by rw [hb.cell (p := ⟨0, 0, none⟩) (by show 0 < _; omega)]; exact hM⟩, Nat.lt_of_lt_of_le hs hb.size⟩
theorem should_no (n : Nat) (h8 : n ≤ 8) (W : World) : Calls Tryd.prog 36 #[.int .i64 (n : Nat)] W fun e w' => e = .returned (.bool false) ∧ w' = W := by
  have g1 : decide ((n : Int) > 8) = false := decide_eq_false (by omega)
  have g2 : decide ((8 : Int) < (n : Int)) = false := decide_eq_false (by omega)
  have g3 : decide (8 < n) = false := decide_eq_false (by omega)
  go_enter Tryd.func36, Tryd.ntmps36
  go_wp2
  go_ret
  exact ⟨rfl, rfl⟩
theorem should_yes (n : Nat) (h8 : 8 < n) (W : World) : Calls Tryd.prog 36 #[.int .i64 (n : Nat)] W fun e w' => e = .returned (.bool true) ∧ w' = W := by
  have g1 : decide ((n : Int) > 8) = true := decide_eq_true (by omega)
  have g2 : decide ((8 : Int) < (n : Int)) = true := decide_eq_true (by omega)
  have g3 : decide (8 < n) = true := decide_eq_true (by omega)
  go_enter Tryd.func36, Tryd.ntmps36
  go_wp2
  go_ret
  exact ⟨rfl, rfl⟩
theorem idx_short (w : World) (a : Option Addr) (c n : Nat) (T : List Nat) (hn : n = T.length) (hU : UOk w) (hB : Bytes w a T) (hS : Small T) (h1 : n ≠ 1) (h8 : n ≤ 8) (hc : n ≤ c) :
    Calls Tryd.prog 27 #[.slice a n c, .string ⟨#[13, 10]⟩] w fun e w' => ∃ r : Int, e = .returned (.int .i64 r) ∧ Hid (decide (0 ≤ r) = crlf T) ∧ Below w.heap.size w w' := by
  have f1 : ((n : Int) == 1) = false := by rw [beq_eq_false_iff_ne]; omega
  have f1b : (n == 1) = false := by rw [beq_eq_false_iff_ne]; omega
  have SH : Hid (∀ W : World, Calls Tryd.prog 36 #[.int .i64 (n : Nat)] W fun e w' => e = .returned (.bool false) ∧ w' = W) := hide (fun W => should_no n h8 W)
  have HU := hide hU
  have HB := hide hB
  have HS := hide hS
  have HN := hide hn
  clear hU hB hS hn
  go_enter Tryd.func27, Tryd.ntmps27
  go_wp2_with (go_at_call 36; refine (unhide SH _).mono ?_; rintro e w1 ⟨rfl, hw1⟩; obtain rfl := hw1.symm)
  go_loopw [11, 12] (fun wv iv wr => ∃ (i k : Nat), wv = .int .i64 (k : Nat) ∧ iv = .int .i64 (i : Nat) ∧ i ≤ n ∧ Hid (crlf (T.take i) = false) ∧ Hid (Below w.heap.size w wr)) (fun _ iv _ => n - (intOf iv).toNat)
  case atStart => exact ⟨0, 0, rfl, rfl, Nat.zero_le _, hide (by simp [crlf]), hide (Below.refl _ _)⟩
  case round =>
    obtain ⟨i, k, rfl, rfl, hi, hcr, p⟩ := hrel
    rcases Nat.lt_or_ge i n with hlt | hge
    rotate_left
    · obtain rfl : i = n := by omega
      have g0 : decide ((i : Int) < (i : Int)) = false := decide_eq_false (by omega)
      go_wp2
      go_ret
      refine ⟨_, rfl, hide ?_, unhide p⟩
      have := unhide hcr
      rw [unhide HN, List.take_length] at this
      rw [this]
      rfl
    have g0 : decide ((i : Int) < (n : Int)) = true := decide_eq_true (by omega)
    have y1 : (0 : Int) ≤ (i : Int) := by omega
    have y2 : (i : Int) < (n : Int) := by omega
    have y3 : (i : Int) ≤ (n : Int) := by omega
    have y4 : (n : Int) ≤ (c : Int) := by omega
    have hNT := unhide HN
    obtain ⟨b, off, rfl, hb, hcell⟩ : ∃ b off, a = some ⟨b, off, none⟩ ∧ b < w.heap.size ∧ ∀ i, i < T.length → w.cell? ⟨b, off + i, none⟩ = some (.int .u8 (T.getD i 0 : Nat)) := by
      rcases unhide HB with h | h
      · rw [h] at hNT; simp at hNT; omega
      · exact h
    obtain ⟨x, hx⟩ : ∃ x, x = T.getD i 0 := ⟨_, rfl⟩
    have hx8 : x < 256 := by rw [hx]; exact unhide HS i (by omega)
    have c1 : wr.cell? ⟨b, off + i, none⟩ = some (.int .u8 (x : Nat)) := by rw [(unhide p).cell hb, hcell i (by omega), hx]
    rcases Nat.lt_or_ge x 128 with hlo | hhi
    · have g1 : decide ((x : Int) < 128) = true := decide_eq_true (by omega)
      have g1b : decide (x < 128) = true := decide_eq_true hlo
      obtain ⟨r, hr, hr2⟩ := eol_ib x hx8
      by_cases q : 0 ≤ r
      · have g2 : decide (0 ≤ r) = true := decide_eq_true q
        have g3 : decide (r ≥ 0) = true := decide_eq_true q
        have HQ : Hid (crlf T = true) := hide (crlf_hit T i (by omega) (by rw [← hx, ← hr2, g2]))
        clear hr2 hcell hx hNT
        go_wp2
        rw [run_callFunc_extern Tryd.func34 (by kernel_rfl) (by kernel_rfl) (by kernel_rfl) (e := Extern.BytealgIndexByte.indexByte) (by kernel_rfl), hr]
        simp only [Result.andThen]
        rw [Oper.upon_value]
        go_wp2
        all_goals go_ret
        all_goals exact ⟨_, rfl, hide (by rw [unhide HQ]; exact decide_eq_true (Int.natCast_nonneg i)), unhide p⟩
      · have g2 : decide (0 ≤ r) = false := decide_eq_false q
        have g3 : decide (r ≥ 0) = false := decide_eq_false q
        have HQ : Hid (crlf (T.take (i + 1)) = false) := hide (crlf_step T i (unhide hcr) 1 (fun j ha hb => by
          obtain rfl : j = i := (by omega)
          rw [← hx, ← hr2, g2]) (by omega))
        clear hr2 hcell hx hNT
        go_wp2
        rw [run_callFunc_extern Tryd.func34 (by kernel_rfl) (by kernel_rfl) (by kernel_rfl) (e := Extern.BytealgIndexByte.indexByte) (by kernel_rfl), hr]
        simp only [Result.andThen]
        rw [Oper.upon_value]
        go_wp2
        all_goals go_roundw
        case rel => exact ⟨i + 1, 1, rfl, by go_num, by omega, HQ, p⟩
        case measure => simp [intOf]; omega
    · have g1 : decide ((x : Int) < 128) = false := decide_eq_false (by omega)
      have g1b : decide (x < 128) = false := decide_eq_false (by omega)
      obtain ⟨U1, ⟨M, hM⟩, U3⟩ := UOk.below w wr (unhide HU) (unhide p)
      obtain ⟨R, K, r1, r2, r3, r4, r5, r6, r7, r8⟩ := dec_high T i b off (c - i) wr U1 (fun j hj => by rw [(unhide p).cell hb, hcell j hj]) (by omega) (unhide HS) (by rw [← hx]; exact hhi)
      have HQ : Hid (crlf (T.take (i + K)) = false) := hide (crlf_step T i (unhide hcr) K (fun j ha hb => by
        have := r6 j ha hb
        rw [Bool.or_eq_false_iff]; constructor <;> (rw [beq_eq_false_iff_ne]; omega)) r5)
      have CD : Hid (Calls Tryd.prog 39 #[.slice (some ⟨b, off + i, none⟩) (n - i) (c - i)] wr fun e w' => e = .returned (.tuple #[.int .i32 (R : Nat), .int .i64 (K : Nat)]) ∧ Hid (Below w.heap.size w w') ∧ w'.cell? ⟨0, 0, none⟩ = some (.int .i64 M)) := hide ((r8 (n - i) (by omega)).mono (fun e w' ⟨h1, h2⟩ => ⟨h1, hide ((unhide p).trans (h2.mono (unhide p).size)), by rw [h2.cell (p := ⟨0, 0, none⟩) (by show 0 < _; omega)]; exact hM⟩))
      have hiK : i + K ≤ n := by omega
      -- the look at the two bytes, one by one
      have hr13 : ((R : Int) == 13) = false := by rw [beq_eq_false_iff_ne]; omega
      have hr10 : ((R : Int) == 10) = false := by rw [beq_eq_false_iff_ne]; omega
      clear hcell hx r8 hM U1 hNT r5 r6
      by_cases hR : R = 65533
      · subst hR
        clear r7 hr13 hr10
        go_wp2_with (go_at_call 39; refine (unhide CD).mono ?_; rintro e w5 ⟨rfl, k5, m5⟩)
        go_loopw [15] (fun _ w' => ∃ pos : Nat, w' = w5.iter ⟨#[13, 10]⟩ pos ∧ pos ≤ 2) (fun _ w' => 2 - w'.iterPos w5.heap.size)
        case atStart => exact ⟨0, rfl, by omega⟩
        case round =>
          obtain ⟨pos, rfl, hp⟩ := hrel
          rcases Nat.lt_or_ge pos 2 with h2 | h2
          · have hnx := fun ty => eol_next w5 pos ty h2
            have hne : ((65533 : Int) == ((if pos = 0 then 13 else 10 : Nat) : Int)) = false := by split <;> (rw [beq_eq_false_iff_ne]; omega)
            generalize ((if pos = 0 then 13 else 10 : Nat) : Int) = q at *
            go_wp2
            all_goals go_roundw
            all_goals first | exact ⟨pos + 1, rfl, by omega⟩ | (simp; omega)
          · have hnx : ∀ ty, (Instr.next (.pointer (some ⟨w5.heap.size, 0, none⟩)) true ty).run Tryd.prog (w5.iter ⟨#[13, 10]⟩ pos) = _ := fun ty => run_next_end w5 ⟨#[13, 10]⟩ pos ty (by show ¬ pos < 2; omega)
            have P5 : Hid (Below w.heap.size w (w5.iter ⟨#[13, 10]⟩ pos)) := hide ((unhide k5).alloc (unhide k5).size _)
            go_wp2
            go_roundw
            case rel => exact ⟨i + K, K, rfl, by go_num, by omega, HQ, P5⟩
            case measure => simp [intOf]; omega
      · obtain ⟨hEs, hK2⟩ := r7 hR
        obtain ⟨eh, he1, he2⟩ := encode_head R r1
        have hne1 : ((R : Int) == 65533) = false := by rw [beq_eq_false_iff_ne]; omega
        have hne2 : (R == 65533) = false := by rw [beq_eq_false_iff_ne]; omega
        have hne3 : ((R : Int) != 65533) = true := by rw [bne, hne1]; rfl
        obtain ⟨E, hE⟩ : ∃ E, E = Utf8.encode (R : Nat) := ⟨_, rfl⟩
        have hconv : ∀ W, (convert 21 9 (.int .i32 (R : Nat))).run Tryd.prog W = .ok (.string E) W := fun W => by rw [hE]; exact run_convert_int_string W 21 9 .i32 (R : Nat) (by rw [Tryd.underlying21]; rfl) Tryd.underlying9
        rw [← hE] at hEs he1
        have q1 : (([13, 10] : List UInt8) == E.toList) = false := by
          rw [beq_eq_false_iff_ne]
          intro h
          rw [Lib.toList_data] at h
          rw [← h] at he1
          cases he1
          exact absurd he2 (by decide)
        clear hE he1 he2
        by_cases hk2 : K = 2
        · subst hk2
          go_wp2_with (go_at_call 39; refine (unhide CD).mono ?_; rintro e w5 ⟨rfl, k5, m5⟩)
          all_goals go_roundw
          all_goals first | exact ⟨i + 2, 2, rfl, by go_num, by omega, HQ, k5⟩ | (simp [intOf]; omega)
        · have hk3 : ((2 : Int) == (K : Int)) = false := by rw [beq_eq_false_iff_ne]; omega
          have hk4 : (2 == K) = false := by rw [beq_eq_false_iff_ne]; omega
          by_cases hMK : (K : Int) ≤ M
          · have m1 : decide (M ≥ (K : Int)) = true := decide_eq_true hMK
            have m2 : decide ((K : Int) ≤ M) = true := decide_eq_true hMK
            go_wp2_with (go_at_call 39; refine (unhide CD).mono ?_; rintro e w5 ⟨rfl, k5, m5⟩)
            rw [run_callFunc_extern Tryd.func40 (by kernel_rfl) (by kernel_rfl) (by kernel_rfl) (e := Extern.BytealgIndex.index) (by kernel_rfl), eol_is E w5 M m5 (by omega) (by omega)]
            simp only [Result.andThen]
            rw [Oper.upon_value]
            go_wp2
            all_goals go_roundw
            all_goals first | exact ⟨i + K, K, rfl, by go_num, by omega, HQ, k5⟩ | (simp [intOf]; omega)
          · have m1 : decide (M ≥ (K : Int)) = false := decide_eq_false hMK
            have m2 : decide ((K : Int) ≤ M) = false := decide_eq_false hMK
            go_wp2_with (go_at_call 39; refine (unhide CD).mono ?_; rintro e w5 ⟨rfl, k5, m5⟩)
            go_loopw [15] (fun _ w' => ∃ pos : Nat, w' = w5.iter ⟨#[13, 10]⟩ pos ∧ pos ≤ 2) (fun _ w' => 2 - w'.iterPos w5.heap.size)
            case atStart => exact ⟨0, rfl, by omega⟩
            case round =>
              obtain ⟨pos, rfl, hp⟩ := hrel
              rcases Nat.lt_or_ge pos 2 with h2 | h2
              · have hnx := fun ty => eol_next w5 pos ty h2
                have hne : ((R : Int) == ((if pos = 0 then 13 else 10 : Nat) : Int)) = false := by
                  split
                  · exact hr13
                  · exact hr10
                generalize ((if pos = 0 then 13 else 10 : Nat) : Int) = q at *
                go_wp2
                all_goals go_roundw
                all_goals first | exact ⟨pos + 1, rfl, by omega⟩ | (simp; omega)
              · have hnx : ∀ ty, (Instr.next (.pointer (some ⟨w5.heap.size, 0, none⟩)) true ty).run Tryd.prog (w5.iter ⟨#[13, 10]⟩ pos) = _ := fun ty => run_next_end w5 ⟨#[13, 10]⟩ pos ty (by show ¬ pos < 2; omega)
                have P5 : Hid (Below w.heap.size w (w5.iter ⟨#[13, 10]⟩ pos)) := hide ((unhide k5).alloc (unhide k5).size _)
                go_wp2
                go_roundw
                case rel => exact ⟨i + K, K, rfl, by go_num, by omega, HQ, P5⟩
                case measure => simp [intOf]; omega
end Go.Proofs.YtfgemcmiilbodaaDoor
