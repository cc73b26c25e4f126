/- bytes.IndexAny with the two bytes of a line's end: the place. -/
import Derived.Test.YtfgemcmiilbodaaDoorCtd
import Derived.Test.YtfgemcmiilbodaaDoorDcc
namespace Go.Proofs.YtfgemcmiilbodaaDoor
open Go.ChangeShapes Go.WideShapes Go.ChangeAt Go.RowKit
set_option linter.unusedVariables false
set_option linter.unusedSimpArgs false
set_option maxRecDepth 100000
set_option maxHeartbeats 4000000

/-- where the first CR or LF stands -/
def EolAt (T : List Nat) (r : Int) : Prop := (crlf T = false ∧ r = -1) ∨ ∃ i : Nat, r = (i : Int) ∧ i < T.length ∧ crlf (T.take i) = false ∧ (T.getD i 0 == 13 || T.getD i 0 == 10) = true
theorem EolAt.no {T : List Nat} (h : crlf T = false) : EolAt T (-1) := .inl ⟨h, rfl⟩
theorem EolAt.hit (T : List Nat) (i : Nat) (hi : i < T.length) (h0 : crlf (T.take i) = false) (h : (T.getD i 0 == 13 || T.getD i 0 == 10) = true) : EolAt T (i : Nat) := .inr ⟨i, rfl, hi, h0, h⟩
theorem EolAt.one1 {x : Nat} (h : (x == 13 || x == 10) = true) : EolAt [x] 0 := .inr ⟨0, rfl, by simp, rfl, h⟩
theorem EolAt.one0 {x : Nat} (h : (x == 13 || x == 10) = false) : EolAt [x] (-1) := .inl ⟨by simp only [crlf, List.any_cons, List.any_nil, h]; rfl, rfl⟩
theorem idx_oneV (w : World) (b off c x : Nat) (hx : x < 256) (h0 : w.cell? ⟨b, off, none⟩ = some (.int .u8 (x : Nat))) :
    Calls Tryd.prog 27 #[.slice (some ⟨b, off, none⟩) 1 c, .string ⟨#[13, 10]⟩] w fun e w' => ∃ r : Int, e = .returned (.int .i64 r) ∧ Hid (EolAt [x] r) ∧ Below w.heap.size w w' := by
  obtain ⟨r, hr, hr2⟩ := eol_ib x hx
  rcases Nat.lt_or_ge x 128 with hlt | hge
  · have f1 : decide ((x : Int) ≥ 128) = false := decide_eq_false (by omega)
    have f2 : decide ((128 : Int) ≤ (x : Int)) = false := decide_eq_false (by omega)
    have f3 : decide (128 ≤ x) = false := decide_eq_false (by omega)
    have HR := hide hr2
    by_cases q : 0 ≤ r
    · have g1 : decide (0 ≤ r) = true := decide_eq_true q
      have g2 : decide (r ≥ 0) = true := decide_eq_true q
      have HQ : Hid ((x == 13 || x == 10) = true) := hide (by rw [← hr2, g1])
      clear hr2
      go_enter Tryd.func27, Tryd.ntmps27
      go_wp2
      rw [run_callFunc_extern Tryd.func34 (by kernel_rfl) (by kernel_rfl) (by kernel_rfl) (e := Extern.BytealgIndexByte.indexByte) (by kernel_rfl), hr]
      simp only [Result.andThen]
      rw [Oper.upon_value]
      go_wp2
      all_goals go_ret
      all_goals exact ⟨_, rfl, hide (EolAt.one1 (unhide HQ)), Below.refl _ _⟩
    · have g1 : decide (0 ≤ r) = false := decide_eq_false q
      have g2 : decide (r ≥ 0) = false := decide_eq_false q
      have HQ : Hid ((x == 13 || x == 10) = false) := hide (by rw [← hr2, g1])
      clear hr2
      go_enter Tryd.func27, Tryd.ntmps27
      go_wp2
      rw [run_callFunc_extern Tryd.func34 (by kernel_rfl) (by kernel_rfl) (by kernel_rfl) (e := Extern.BytealgIndexByte.indexByte) (by kernel_rfl), hr]
      simp only [Result.andThen]
      rw [Oper.upon_value]
      go_wp2
      all_goals go_ret
      all_goals exact ⟨_, rfl, hide (EolAt.one0 (unhide HQ)), Below.refl _ _⟩
  · have f1 : decide ((x : Int) ≥ 128) = true := decide_eq_true (by omega)
    have f2 : decide ((128 : Int) ≤ (x : Int)) = true := decide_eq_true (by omega)
    have f3 : decide (128 ≤ x) = true := decide_eq_true (by omega)
    have HX : Hid ((x == 13 || x == 10) = false) := hide (by
      rw [Bool.or_eq_false_iff]; constructor <;> (rw [beq_eq_false_iff_ne]; omega))
    clear hr hr2
    go_enter Tryd.func27, Tryd.ntmps27
    go_wp2
    go_loopw [5] (fun rv w' => ∃ pos : Nat, w' = w.iter ⟨#[13, 10]⟩ pos ∧ pos ≤ 2) (fun _ w' => 2 - w'.iterPos w.heap.size)
    case atStart => exact ⟨0, rfl, by omega⟩
    case round =>
      obtain ⟨pos, rfl, hp⟩ := hrel
      rcases Nat.lt_or_ge pos 2 with h2 | h2
      · have hnx := fun ty => eol_next w pos ty h2
        have hne : (((if pos = 0 then 13 else 10 : Nat) : Int) == 65533) = false := by split <;> decide
        generalize ((if pos = 0 then 13 else 10 : Nat) : Int) = q at *
        go_wp2
        all_goals go_roundw
        all_goals first | exact ⟨pos + 1, rfl, by omega⟩ | (simp; omega)
      · have hnx : ∀ ty, (Instr.next (.pointer (some ⟨w.heap.size, 0, none⟩)) true ty).run Tryd.prog (w.iter ⟨#[13, 10]⟩ pos) = _ := fun ty => run_next_end w ⟨#[13, 10]⟩ pos ty (by show ¬ pos < 2; omega)
        go_wp2
        all_goals go_ret
        all_goals exact ⟨_, rfl, hide (EolAt.one0 (unhide HX)), (Below.refl _ _).alloc (Nat.le_refl _) _⟩
theorem idx_shortV (w : World) (a : Option Addr) (c n : Nat) (T : List Nat) (hn : n = T.length) (hU : UOk w) (hB : Bytes w a T) (hS : Small T) (h1 : n ≠ 1) (h8 : n ≤ 8) (hc : n ≤ c) :
    Calls Tryd.prog 27 #[.slice a n c, .string ⟨#[13, 10]⟩] w fun e w' => ∃ r : Int, e = .returned (.int .i64 r) ∧ Hid (EolAt T r) ∧ Below w.heap.size w w' := by
  have f1 : ((n : Int) == 1) = false := by rw [beq_eq_false_iff_ne]; omega
  have f1b : (n == 1) = false := by rw [beq_eq_false_iff_ne]; omega
  have SH : Hid (∀ W : World, Calls Tryd.prog 36 #[.int .i64 (n : Nat)] W fun e w' => e = .returned (.bool false) ∧ w' = W) := hide (fun W => should_no n h8 W)
  have HU := hide hU
  have HB := hide hB
  have HS := hide hS
  have HN := hide hn
  clear hU hB hS hn
  go_enter Tryd.func27, Tryd.ntmps27
  go_wp2_with (go_at_call 36; refine (unhide SH _).mono ?_; rintro e w1 ⟨rfl, hw1⟩; obtain rfl := hw1.symm)
  go_loopw [11, 12] (fun wv iv wr => ∃ (i k : Nat), wv = .int .i64 (k : Nat) ∧ iv = .int .i64 (i : Nat) ∧ i ≤ n ∧ Hid (crlf (T.take i) = false) ∧ Hid (Below w.heap.size w wr)) (fun _ iv _ => n - (intOf iv).toNat)
  case atStart => exact ⟨0, 0, rfl, rfl, Nat.zero_le _, hide (by simp [crlf]), hide (Below.refl _ _)⟩
  case round =>
    obtain ⟨i, k, rfl, rfl, hi, hcr, p⟩ := hrel
    rcases Nat.lt_or_ge i n with hlt | hge
    rotate_left
    · obtain rfl : i = n := by omega
      have g0 : decide ((i : Int) < (i : Int)) = false := decide_eq_false (by omega)
      go_wp2
      go_ret
      refine ⟨_, rfl, hide ?_, unhide p⟩
      have := unhide hcr
      rw [unhide HN, List.take_length] at this
      exact EolAt.no this
    have g0 : decide ((i : Int) < (n : Int)) = true := decide_eq_true (by omega)
    have y1 : (0 : Int) ≤ (i : Int) := by omega
    have y2 : (i : Int) < (n : Int) := by omega
    have y3 : (i : Int) ≤ (n : Int) := by omega
    have y4 : (n : Int) ≤ (c : Int) := by omega
    have hNT := unhide HN
    obtain ⟨b, off, rfl, hb, hcell⟩ : ∃ b off, a = some ⟨b, off, none⟩ ∧ b < w.heap.size ∧ ∀ i, i < T.length → w.cell? ⟨b, off + i, none⟩ = some (.int .u8 (T.getD i 0 : Nat)) := by
      rcases unhide HB with h | h
      · rw [h] at hNT; simp at hNT; omega
      · exact h
    obtain ⟨x, hx⟩ : ∃ x, x = T.getD i 0 := ⟨_, rfl⟩
    have hx8 : x < 256 := by rw [hx]; exact unhide HS i (by omega)
    have c1 : wr.cell? ⟨b, off + i, none⟩ = some (.int .u8 (x : Nat)) := by rw [(unhide p).cell hb, hcell i (by omega), hx]
    rcases Nat.lt_or_ge x 128 with hlo | hhi
    · have g1 : decide ((x : Int) < 128) = true := decide_eq_true (by omega)
      have g1b : decide (x < 128) = true := decide_eq_true hlo
      obtain ⟨r, hr, hr2⟩ := eol_ib x hx8
      by_cases q : 0 ≤ r
      · have g2 : decide (0 ≤ r) = true := decide_eq_true q
        have g3 : decide (r ≥ 0) = true := decide_eq_true q
        have HQ : Hid (EolAt T (i : Nat)) := hide (EolAt.hit T i (by omega) (unhide hcr) (by rw [← hx, ← hr2, g2]))
        clear hr2 hcell hx hNT
        go_wp2
        rw [run_callFunc_extern Tryd.func34 (by kernel_rfl) (by kernel_rfl) (by kernel_rfl) (e := Extern.BytealgIndexByte.indexByte) (by kernel_rfl), hr]
        simp only [Result.andThen]
        rw [Oper.upon_value]
        go_wp2
        all_goals go_ret
        all_goals exact ⟨_, rfl, HQ, unhide p⟩
      · have g2 : decide (0 ≤ r) = false := decide_eq_false q
        have g3 : decide (r ≥ 0) = false := decide_eq_false q
        have HQ : Hid (crlf (T.take (i + 1)) = false) := hide (crlf_step T i (unhide hcr) 1 (fun j ha hb => by
          obtain rfl : j = i := (by omega)
          rw [← hx, ← hr2, g2]) (by omega))
        clear hr2 hcell hx hNT
        go_wp2
        rw [run_callFunc_extern Tryd.func34 (by kernel_rfl) (by kernel_rfl) (by kernel_rfl) (e := Extern.BytealgIndexByte.indexByte) (by kernel_rfl), hr]
        simp only [Result.andThen]
        rw [Oper.upon_value]
        go_wp2
        all_goals go_roundw
        case rel => exact ⟨i + 1, 1, rfl, by go_num, by omega, HQ, p⟩
        case measure => simp [intOf]; omega
    · have g1 : decide ((x : Int) < 128) = false := decide_eq_false (by omega)
      have g1b : decide (x < 128) = false := decide_eq_false (by omega)
      obtain ⟨U1, ⟨M, hM⟩, U3⟩ := UOk.below w wr (unhide HU) (unhide p)
      obtain ⟨R, K, r1, r2, r3, r4, r5, r6, r7, r8⟩ := dec_high T i b off (c - i) wr U1 (fun j hj => by rw [(unhide p).cell hb, hcell j hj]) (by omega) (unhide HS) (by rw [← hx]; exact hhi)
      have HQ : Hid (crlf (T.take (i + K)) = false) := hide (crlf_step T i (unhide hcr) K (fun j ha hb => by
        have := r6 j ha hb
        rw [Bool.or_eq_false_iff]; constructor <;> (rw [beq_eq_false_iff_ne]; omega)) r5)
      have CD : Hid (Calls Tryd.prog 39 #[.slice (some ⟨b, off + i, none⟩) (n - i) (c - i)] wr fun e w' => e = .returned (.tuple #[.int .i32 (R : Nat), .int .i64 (K : Nat)]) ∧ Hid (Below w.heap.size w w') ∧ w'.cell? ⟨0, 0, none⟩ = some (.int .i64 M)) := hide ((r8 (n - i) (by omega)).mono (fun e w' ⟨h1, h2⟩ => ⟨h1, hide ((unhide p).trans (h2.mono (unhide p).size)), by rw [h2.cell (p := ⟨0, 0, none⟩) (by show 0 < _; omega)]; exact hM⟩))
      have hiK : i + K ≤ n := by omega
      -- the look at the two bytes, one by one
      have hr13 : ((R : Int) == 13) = false := by rw [beq_eq_false_iff_ne]; omega
      have hr10 : ((R : Int) == 10) = false := by rw [beq_eq_false_iff_ne]; omega
      clear hcell hx r8 hM U1 hNT r5 r6
      by_cases hR : R = 65533
      · subst hR
        clear r7 hr13 hr10
        go_wp2_with (go_at_call 39; refine (unhide CD).mono ?_; rintro e w5 ⟨rfl, k5, m5⟩)
        go_loopw [15] (fun _ w' => ∃ pos : Nat, w' = w5.iter ⟨#[13, 10]⟩ pos ∧ pos ≤ 2) (fun _ w' => 2 - w'.iterPos w5.heap.size)
        case atStart => exact ⟨0, rfl, by omega⟩
        case round =>
          obtain ⟨pos, rfl, hp⟩ := hrel
          rcases Nat.lt_or_ge pos 2 with h2 | h2
          · have hnx := fun ty => eol_next w5 pos ty h2
            have hne : ((65533 : Int) == ((if pos = 0 then 13 else 10 : Nat) : Int)) = false := by split <;> (rw [beq_eq_false_iff_ne]; omega)
            generalize ((if pos = 0 then 13 else 10 : Nat) : Int) = q at *
            go_wp2
            all_goals go_roundw
            all_goals first | exact ⟨pos + 1, rfl, by omega⟩ | (simp; omega)
          · have hnx : ∀ ty, (Instr.next (.pointer (some ⟨w5.heap.size, 0, none⟩)) true ty).run Tryd.prog (w5.iter ⟨#[13, 10]⟩ pos) = _ := fun ty => run_next_end w5 ⟨#[13, 10]⟩ pos ty (by show ¬ pos < 2; omega)
            have P5 : Hid (Below w.heap.size w (w5.iter ⟨#[13, 10]⟩ pos)) := hide ((unhide k5).alloc (unhide k5).size _)
            go_wp2
            go_roundw
            case rel => exact ⟨i + K, K, rfl, by go_num, by omega, HQ, P5⟩
            case measure => simp [intOf]; omega
      · obtain ⟨hEs, hK2⟩ := r7 hR
        obtain ⟨eh, he1, he2⟩ := encode_head R r1
        have hne1 : ((R : Int) == 65533) = false := by rw [beq_eq_false_iff_ne]; omega
        have hne2 : (R == 65533) = false := by rw [beq_eq_false_iff_ne]; omega
        have hne3 : ((R : Int) != 65533) = true := by rw [bne, hne1]; rfl
        obtain ⟨E, hE⟩ : ∃ E, E = Utf8.encode (R : Nat) := ⟨_, rfl⟩
        have hconv : ∀ W, (convert 21 9 (.int .i32 (R : Nat))).run Tryd.prog W = .ok (.string E) W := fun W => by rw [hE]; exact run_convert_int_string W 21 9 .i32 (R : Nat) (by rw [Tryd.underlying21]; rfl) Tryd.underlying9
        rw [← hE] at hEs he1
        have q1 : (([13, 10] : List UInt8) == E.toList) = false := by
          rw [beq_eq_false_iff_ne]
          intro h
          rw [Lib.toList_data] at h
          rw [← h] at he1
          cases he1
          exact absurd he2 (by decide)
        clear hE he1 he2
        by_cases hk2 : K = 2
        · subst hk2
          go_wp2_with (go_at_call 39; refine (unhide CD).mono ?_; rintro e w5 ⟨rfl, k5, m5⟩)
          all_goals go_roundw
          all_goals first | exact ⟨i + 2, 2, rfl, by go_num, by omega, HQ, k5⟩ | (simp [intOf]; omega)
        · have hk3 : ((2 : Int) == (K : Int)) = false := by rw [beq_eq_false_iff_ne]; omega
          have hk4 : (2 == K) = false := by rw [beq_eq_false_iff_ne]; omega
          by_cases hMK : (K : Int) ≤ M
          · have m1 : decide (M ≥ (K : Int)) = true := decide_eq_true hMK
            have m2 : decide ((K : Int) ≤ M) = true := decide_eq_true hMK
            go_wp2_with (go_at_call 39; refine (unhide CD).mono ?_; rintro e w5 ⟨rfl, k5, m5⟩)
            rw [run_callFunc_extern Tryd.func40 (by kernel_rfl) (by kernel_rfl) (by kernel_rfl) (e := Extern.BytealgIndex.index) (by kernel_rfl), eol_is E w5 M m5 (by omega) (by omega)]
            simp only [Result.andThen]
            rw [Oper.upon_value]
            go_wp2
            all_goals go_roundw
            all_goals first | exact ⟨i + K, K, rfl, by go_num, by omega, HQ, k5⟩ | (simp [intOf]; omega)
          · have m1 : decide (M ≥ (K : Int)) = false := decide_eq_false hMK
            have m2 : decide ((K : Int) ≤ M) = false := decide_eq_false hMK
            go_wp2_with (go_at_call 39; refine (unhide CD).mono ?_; rintro e w5 ⟨rfl, k5, m5⟩)
            go_loopw [15] (fun _ w' => ∃ pos : Nat, w' = w5.iter ⟨#[13, 10]⟩ pos ∧ pos ≤ 2) (fun _ w' => 2 - w'.iterPos w5.heap.size)
            case atStart => exact ⟨0, rfl, by omega⟩
            case round =>
              obtain ⟨pos, rfl, hp⟩ := hrel
              rcases Nat.lt_or_ge pos 2 with h2 | h2
              · have hnx := fun ty => eol_next w5 pos ty h2
                have hne : ((R : Int) == ((if pos = 0 then 13 else 10 : Nat) : Int)) = false := by
                  split
                  · exact hr13
                  · exact hr10
                generalize ((if pos = 0 then 13 else 10 : Nat) : Int) = q at *
                go_wp2
                all_goals go_roundw
                all_goals first | exact ⟨pos + 1, rfl, by omega⟩ | (simp; omega)
              · have hnx : ∀ ty, (Instr.next (.pointer (some ⟨w5.heap.size, 0, none⟩)) true ty).run Tryd.prog (w5.iter ⟨#[13, 10]⟩ pos) = _ := fun ty => run_next_end w5 ⟨#[13, 10]⟩ pos ty (by show ¬ pos < 2; omega)
                have P5 : Hid (Below w.heap.size w (w5.iter ⟨#[13, 10]⟩ pos)) := hide ((unhide k5).alloc (unhide k5).size _)
                go_wp2
                go_roundw
                case rel => exact ⟨i + K, K, rfl, by go_num, by omega, HQ, P5⟩
                case measure => simp [intOf]; omega
theorem idx_longV (w : World) (b off c n : Nat) (T : List Nat) (hn : n = T.length) (hb : b < w.heap.size) (hB : ∀ j, j < T.length → w.cell? ⟨b, off + j, none⟩ = some (.int .u8 (T.getD j 0 : Nat))) (hS : Small T) (h8 : 8 < n) (hc : n ≤ 1073741824) :
    Calls Tryd.prog 27 #[.slice (some ⟨b, off, none⟩) n c, .string ⟨#[13, 10]⟩] w fun e w' => ∃ r : Int, e = .returned (.int .i64 r) ∧ Hid (EolAt T r) ∧ Below w.heap.size w w' := by
  have f1 : ((n : Int) == 1) = false := by rw [beq_eq_false_iff_ne]; omega
  have f1b : (n == 1) = false := by rw [beq_eq_false_iff_ne]; omega
  have SH : Hid (∀ W : World, Calls Tryd.prog 36 #[.int .i64 (n : Nat)] W fun e w' => e = .returned (.bool true) ∧ w' = W) := hide (fun W => should_yes n h8 W)
  have CM : Hid (Calls Tryd.prog 37 #[.string ⟨#[13, 10]⟩] w fun e w' => ∃ C, e = .returned (.tuple #[.agg C, .bool true]) ∧ Hid (Below w.heap.size w w' ∧ IsA C (fun c => c == 10 || (c == 13 || false)))) := hide (make_set w)
  have HB := hide hB
  have HS := hide hS
  have HN := hide hn
  clear hB hS hn
  go_enter Tryd.func27, Tryd.ntmps27
  go_wp2_with (first
    | (go_at_call 36; refine (unhide SH _).mono ?_; rintro e w1 ⟨rfl, hw1⟩; obtain rfl := hw1.symm)
    | (go_at_call 37; refine (unhide CM).mono ?_; rintro e w2 ⟨C, rfl, k2⟩)
    | (refine wpList_alloc123 rfl rfl w2.heap.size rfl ?_; intro w3 k3)
    | (refine wpList_store123 rfl _ _ rfl rfl w2.heap.size C rfl rfl zs (unhide k3).1 (unhide k2).2.size zs_size (unhide k2).2.one ?_; intro w4 k4))
  have HG : Hid (w4.heap[w2.heap.size]? = some (.cells C 71 (0, 0)) ∧ Below w.heap.size w w4 ∧ IsA C (fun c => c == 10 || (c == 13 || false))) := hide ⟨(unhide k4).1, ((unhide k2).1.trans ((unhide k3).2.2.mono (unhide k2).1.size)).trans ⟨(unhide k4).2.os, (unhide k4).2.tape, (unhide k4).2.output, (unhide k4).2.size, fun b hb => (unhide k4).2.blk b (by have := (unhide k2).1.size; have := (unhide k3).2.1; omega) (by have := (unhide k2).1.size; omega)⟩, (unhide k2).2⟩
  clear k2 k3 k4
  go_loopw [62] (fun iv wr => ∃ i : Nat, iv = .int .i64 (i : Nat) ∧ i ≤ n ∧ Hid (crlf (T.take i) = false) ∧ wr = w4) (fun iv _ => n - (intOf iv).toNat)
  case atStart => exact ⟨0, rfl, Nat.zero_le _, hide (by simp [crlf]), rfl⟩
  case round =>
    obtain ⟨i, rfl, hi, hcr, rfl⟩ := hrel
    rcases Nat.lt_or_ge i n with hlt | hge
    · have g0 : decide ((i : Int) < (n : Int)) = true := decide_eq_true (by omega)
      have y1 : (0 : Int) ≤ (i : Int) := by omega
      have y2 : (i : Int) < (n : Int) := by omega
      have hNT := unhide HN
      obtain ⟨x, hx⟩ : ∃ x, x = T.getD i 0 := ⟨_, rfl⟩
      have hx8 : x < 256 := by rw [hx]; exact unhide HS i (by omega)
      have c1 : wr.cell? ⟨b, off + i, none⟩ = some (.int .u8 (x : Nat)) := by rw [(unhide HG).2.1.cell hb, unhide HB i (by omega), hx]
      have CC : Hid (Calls Tryd.prog 38 #[.pointer (some ⟨w2.heap.size, 0, none⟩), .int .u8 (x : Nat)] wr fun e w' => ∃ q, e = .returned (.bool q) ∧ Hid (q = (x == 10 || (x == 13 || false))) ∧ w' = wr) := hide ((contains_any wr w2.heap.size x C _ hx8 (unhide HG).1 (unhide HG).2.2).mono (fun e w' ⟨h1, h2⟩ => ⟨_, h1, hide rfl, h2⟩))
      have H1 : Hid ((x == 10 || (x == 13 || false)) = true → EolAt T (i : Nat)) := hide (fun h => EolAt.hit T i (by omega) (unhide hcr) (by rw [← hx]; simpa [Bool.or_comm] using h))
      have H0 : Hid ((x == 10 || (x == 13 || false)) = false → crlf (T.take (i + 1)) = false) := hide (fun h => crlf_step T i (unhide hcr) 1 (fun j ha hb => by
          obtain rfl : j = i := (by omega)
          rw [← hx]; simpa [Bool.or_comm, and_comm] using h) (by omega))
      clear hNT hx
      go_wp2_with (go_at_call 38; refine (unhide CC).mono ?_; rintro e w5 ⟨q, rfl, hq, h5⟩; obtain rfl := h5.symm; cases q)
      · go_roundw
        case rel => exact ⟨i + 1, by go_num, by omega, hide (unhide H0 (unhide hq).symm), by first | rfl | trivial⟩
        case measure => simp [intOf]; omega
      · go_ret
        exact ⟨_, rfl, hide (unhide H1 (unhide hq).symm), (unhide HG).2.1⟩
    · obtain rfl : i = n := by omega
      have g0 : decide ((i : Int) < (i : Int)) = false := decide_eq_false (by omega)
      go_wp2
      go_ret
      refine ⟨_, rfl, hide ?_, (unhide HG).2.1⟩
      have := unhide hcr
      rw [unhide HN, List.take_length] at this
      exact EolAt.no this
theorem indexeol_any (w : World) (a : Option Addr) (c n : Nat) (T : List Nat) (hn : n = T.length) (hU : UOk w) (hB : Bytes w a T) (hS : Small T) (hc : n ≤ c) (hl : n ≤ 1073741824) :
    Calls Tryd.prog 27 #[.slice a n c, .string ⟨#[13, 10]⟩] w fun e w' => ∃ r : Int, e = .returned (.int .i64 r) ∧ Hid (EolAt T r) ∧ Below w.heap.size w w' := by
  subst hn
  rcases hB with rfl | ⟨b, off, rfl, hb, hcell⟩
  · exact idx_shortV w a c 0 [] rfl hU (.inl rfl) hS (by decide) (by decide) (Nat.zero_le _)
  · by_cases h1 : T.length = 1
    · match T, h1 with
      | [x], _ => exact idx_oneV w b off c x (hS 0 (by simp)) (hcell 0 (by simp))
    · by_cases h8 : T.length ≤ 8
      · exact idx_shortV w _ c T.length T rfl hU (.inr ⟨b, off, rfl, hb, hcell⟩) hS h1 h8 hc
      · exact idx_longV w b off c T.length T rfl hb hcell hS (by omega) (by omega)
theorem line_all (T : List Nat) (h : crlf T = false) : T.takeWhile (fun c => !(c == 13 || c == 10)) = T := by
  induction T with
  | nil => rfl
  | cons c r ih =>
    unfold crlf at h
    rw [List.any_cons, Bool.or_eq_false_iff] at h
    rw [List.takeWhile_cons, h.1]
    show c :: _ = _
    rw [ih h.2]
/-- the line's text, by the place -/
theorem EolAt.no_line {b : List Nat} (h : EolAt (b.take 1024) (-1)) : Larder8.lineT b = b.take 1024 := by
  rcases h with ⟨h, -⟩ | ⟨i, e, -⟩
  · exact line_all _ h
  · omega
theorem line_row (T : List Nat) : ∀ i : Nat, i < T.length → crlf (T.take i) = false → (T.getD i 0 == 13 || T.getD i 0 == 10) = true → T.takeWhile (fun c => !(c == 13 || c == 10)) = T.take i := by
  induction T with
  | nil => intro i hi; simp at hi
  | cons c r ih =>
    intro i hi h0 h
    cases i with
    | zero =>
      have h' : (c == 13 || c == 10) = true := by simpa using h
      rw [List.takeWhile_cons, h']
      rfl
    | succ k =>
      unfold crlf at h0
      rw [List.take_succ_cons, List.any_cons, Bool.or_eq_false_iff] at h0
      rw [List.takeWhile_cons, h0.1, List.take_succ_cons]
      show c :: _ = _
      rw [ih k (by simpa using hi) h0.2 (by simpa using h)]
theorem EolAt.at_line {b : List Nat} {i : Nat} (h : EolAt (b.take 1024) (i : Nat)) : i < (b.take 1024).length ∧ Larder8.lineT b = (b.take 1024).take i := by
  rcases h with ⟨h, e⟩ | ⟨k, e, h1, h2, h3⟩
  · omega
  · obtain rfl : i = k := by omega
    exact ⟨h1, line_row _ i h1 h2 h3⟩
end Go.Proofs.YtfgemcmiilbodaaDoor
