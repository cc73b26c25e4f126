/- Bytes. -/
import Derived.Test.YtdgdnpgjbphgaabImage
import Derived.Test.YtdgdnpgjbphgaabUnpack
import Derived.Test.YtdgdnpgjbphgaabSame
namespace Go.Proofs.Ytdgdnpgjbphgaab
open Go.ChangeShapes Go.WideShapes Go.ChangeAt Go.RowKit
set_option linter.unusedVariables false
set_option maxRecDepth 100000
set_option maxHeartbeats 2000000

theorem run_yes {p bw bh : Nat} {ws : List Nat} {hs : List Bool} {used : Nat} (k from' n : Nat) (w : World) (h : Ar w p bw bh ws hs used) (hh : Heads ws hs used) (he : (objRes ws hs used k).2.2.2 = 0) (hn : from' + n ≤ 8 * (objRes ws hs used k).2.2.1) :
    Calls Try.prog 68 #[.pointer (some ⟨p, 0, none⟩), .int .i64 k, .int .i64 from', .int .i64 n] w fun e w' => (∃ off, e = .returned (.tuple #[.slice (some ⟨bw, off, none⟩) (Larder.wn (from' + n) - from' / 8) (Larder.wn (from' + n) - from' / 8), .int .i64 0]) ∧
      (0 < Larder.wn (from' + n) - from' / 8 → off = k + 1 + (objRes ws hs used k).2.1 + from' / 8)) ∧ Below w.heap.size w w' ∧ k + 1 + (objRes ws hs used k).2.1 + (objRes ws hs used k).2.2.1 ≤ used := by
  have HF := hide (fields_yes k w h hh he)
  have hu := h.u2
  have hz := h.sz
  generalize (objRes ws hs used k).2.1 = r at *
  generalize (objRes ws hs used k).2.2.1 = s at *
  clear h hh he
  have HWD : Hid (∀ w', r + s ≤ 1048576 → Calls Try.prog 86 #[.int .i64 ((from' : Int) + n)] w' fun e w'' => e = .returned (.int .i64 (Larder.wn (from' + n) : Nat)) ∧ w'' = w') := hide (fun w' hrs => by
    have h := words_any ((from' : Int) + n) w' (by omega) (by omega)
    have e : wordsI ((from' : Int) + n) = (Larder.wn (from' + n) : Nat) := by unfold wordsI Larder.wn; split <;> omega
    rw [e] at h
    exact h)
  obtain ⟨hi, hhi⟩ : ∃ hi, hi = Larder.wn (from' + n) := ⟨_, rfl⟩
  obtain ⟨lo, hlo⟩ : ∃ lo, lo = from' / 8 := ⟨_, rfl⟩
  have h1 : hi ≤ s := by rw [hhi]; unfold Larder.wn; omega
  have h2 : lo ≤ hi := by rw [hhi, hlo]; unfold Larder.wn; omega
  have hq : (from' : Int) / 8 = (lo : Int) := by omega
  rw [← hhi, ← hlo]
  rw [← hhi] at HWD
  obtain ⟨d, hd⟩ : ∃ d, d = hi - lo := ⟨_, rfl⟩
  rw [← hd]
  have e0 : decide ((from' : Int) < 0) = false := decide_eq_false (by omega)
  have e1 : decide ((n : Int) < 0) = false := decide_eq_false (by omega)
  clear hhi hlo
  go_enter Try.func68, Try.ntmps68
  go_wp2_with fail
  refine (unhide HF).mono ?_
  rintro e w1 ⟨⟨off, rfl, hoff⟩, hb1, hfit⟩
  have hs8 : r + s ≤ 1048576 := by omega
  have HO := hide hoff
  have HFI := hide hfit
  clear hoff
  have e2 : decide ((8 * s : Int) - (from' : Int) < (n : Int)) = false := decide_eq_false (by omega)
  by_cases hs0 : s = 0
  · have hh0 : hi = 0 := by omega
    have hl0 : lo = 0 := by omega
    subst hs0
    subst hh0
    subst hl0
    have hd0 : d = 0 := by omega
    subst hd0
    clear hd
    go_wp2_with fail
    refine (unhide HWD w1 hs8).mono ?_
    rintro e w' ⟨rfl, hw'⟩
    obtain rfl := hw'.symm
    go_wp2
    go_ret2
    exact ⟨⟨_, rfl, fun h => by omega⟩, hb1, hfit⟩
  · have ho := unhide HO (by omega)
    subst ho
    by_cases hhl : hi = lo
    · subst hhl
      have hd0 : d = 0 := by omega
      subst hd0
      clear hd
      go_wp2_with fail
      refine (unhide HWD w1 hs8).mono ?_
      rintro e w' ⟨rfl, hw'⟩
      obtain rfl := hw'.symm
      go_wp2
      all_goals
        go_ret2
        exact ⟨⟨_, rfl, fun h => by omega⟩, hb1, hfit⟩
    · subst hd
      go_wp2_with fail
      refine (unhide HWD w1 hs8).mono ?_
      rintro e w' ⟨rfl, hw'⟩
      obtain rfl := hw'.symm
      go_wp2
      go_ret2
      exact ⟨⟨_, rfl, fun _ => rfl⟩, hb1, hfit⟩

/-- the error of a call about the raws' bytes -/
def spanErr (ws : List Nat) (hs : List Bool) (used : Nat) (at' from' n : Int) : Nat :=
  if (objRes ws hs used at').2.2.2 ≠ 0 then (objRes ws hs used at').2.2.2
  else if 0 ≤ from' ∧ 0 ≤ n ∧ from' + n ≤ 8 * ((objRes ws hs used at').2.2.1 : Nat) then 0 else 25

theorem run_no {p bw bh : Nat} {ws : List Nat} {hs : List Bool} {used : Nat} (at' from' n : Int) (w : World) (hf1 : from' ≤ 9223372036854775807) (hf2 : -9223372036854775808 ≤ from') (h : Ar w p bw bh ws hs used) (hh : Heads ws hs used) (f : Nat) (hf : f = spanErr ws hs used at' from' n) (hne : f ≠ 0) :
    Calls Try.prog 68 #[.pointer (some ⟨p, 0, none⟩), .int .i64 at', .int .i64 from', .int .i64 n] w fun e w' => e = .returned (.tuple #[.slice none 0 0, .int .i64 f]) ∧ Below w.heap.size w w' := by
  unfold spanErr at hf
  have e1 : ((f : Int) == 0) = false := by rw [beq_eq_false_iff_ne]; omega
  by_cases h0 : (objRes ws hs used at').2.2.2 ≠ 0
  · rw [if_pos h0] at hf
    have HF := hide (fields_no at' w h hh f hf hne)
    clear h hh hf h0 hne
    go_enter Try.func68, Try.ntmps68
    go_wp2_with fail
    refine (unhide HF).mono ?_
    rintro e w1 ⟨rfl, hb1⟩
    go_wp2
    go_ret2
    exact ⟨rfl, hb1⟩
  · rw [if_neg h0] at hf
    have he : (objRes ws hs used at').2.2.2 = 0 := by omega
    obtain ⟨k, rfl, hk1⟩ := obj_nat he
    have HF := hide (fields_yes k w h hh he)
    have hu := h.u2
    have hz := h.sz
    generalize (objRes ws hs used k).2.1 = r at *
    generalize (objRes ws hs used k).2.2.1 = s at *
    by_cases hi : 0 ≤ from' ∧ 0 ≤ n ∧ from' + n ≤ 8 * ((s : Nat) : Int)
    · rw [if_pos hi] at hf; exact absurd hf hne
    · rw [if_neg hi] at hf
      subst hf
      clear h hh he h0 hne e1
      by_cases hn1 : from' < 0
      · have e2 : decide (from' < 0) = true := decide_eq_true hn1
        go_enter Try.func68, Try.ntmps68
        go_wp2_with fail
        refine (unhide HF).mono ?_
        rintro e w1 ⟨⟨off, rfl, hoff⟩, hb1, hfit⟩
        clear hoff
        go_wp2
        all_goals
          go_ret2
          exact ⟨rfl, hb1⟩
      · have e2 : decide (from' < 0) = false := decide_eq_false hn1
        by_cases hn2 : n < 0
        · have e3 : decide (n < 0) = true := decide_eq_true hn2
          go_enter Try.func68, Try.ntmps68
          go_wp2_with fail
          refine (unhide HF).mono ?_
          rintro e w1 ⟨⟨off, rfl, hoff⟩, hb1, hfit⟩
          clear hoff
          go_wp2
          all_goals
            go_ret2
            exact ⟨rfl, hb1⟩
        · have e3 : decide (n < 0) = false := decide_eq_false hn2
          have hgt : 8 * (s : Int) - from' < n := by omega
          have HGT := hide hgt
          go_enter Try.func68, Try.ntmps68
          go_wp2_with fail
          refine (unhide HF).mono ?_
          rintro e w1 ⟨⟨off, rfl, hoff⟩, hb1, hfit⟩
          clear hoff
          by_cases hs0 : s = 0
          · subst hs0
            have e4 : decide (-from' < n) = true := decide_eq_true (by omega)
            have e5 : decide (0 - from' < n) = true := decide_eq_true (by omega)
            clear hi hgt
            go_wp2
            go_ret2
            exact ⟨rfl, hb1⟩
          · have e4 : decide (8 * (s : Int) - from' < n) = true := decide_eq_true hgt
            clear hi hgt
            go_wp2
            go_ret2
            exact ⟨rfl, hb1⟩
end Go.Proofs.Ytdgdnpgjbphgaab
namespace Go.Proofs.Ytdgdnpgjbphgaab
open Go.ChangeShapes Go.WideShapes Go.ChangeAt Go.RowKit
set_option linter.unusedVariables false
set_option maxRecDepth 100000
set_option maxHeartbeats 2000000

/-- byte q of the raws that begin at word b0 -/
def rawByte (ws : List Nat) (b0 q : Nat) : Nat := ws.getD (b0 + q / 8) 0 / 2 ^ (8 * (q % 8)) % 256
/-- m words from c on -/
def runL (ws : List Nat) (c m : Nat) : List Nat := (List.range m).map fun i => ws.getD (c + i) 0
theorem runL_length (ws : List Nat) (c m : Nat) : (runL ws c m).length = m := by simp [runL]
theorem runL_at (ws : List Nat) (c m i : Nat) (h : i < m) : (runL ws c m).getD i 0 = ws.getD (c + i) 0 := by
  unfold runL
  rw [List.getD_eq_getElem?_getD, List.getElem?_map, List.getElem?_range h]; rfl
theorem Ar.run {w : World} {p bw bh : Nat} {ws : List Nat} {hs : List Bool} {used : Nat} (h : Ar w p bw bh ws hs used) (off c m : Nat) (hc : 0 < m → off = c) (hm : c + m ≤ ws.length) : Words w (some ⟨bw, off, none⟩) (runL ws c m) ∧ WSmall (runL ws c m) := by
  constructor
  · by_cases h0 : m = 0
    · left; subst h0; rfl
    · right
      have := hc (by omega)
      subst this
      refine ⟨bw, off, rfl, h.lw, fun i hi => ?_⟩
      rw [runL_length] at hi
      rw [runL_at ws off m i hi]
      exact h.ww _ (by omega)
  · intro i hi
    rw [runL_length] at hi
    rw [runL_at ws c m i hi]
    exact h.small _ (by omega)
theorem unpack_run (ws : List Nat) (b0 from' n i : Nat) (hi : i < n) : (Larder.unpackL (runL ws (b0 + from' / 8) (Larder.wn (from' + n) - from' / 8)) (from' % 8 + n)).getD (from' % 8 + i) 0 = rawByte ws b0 (from' + i) := by
  rw [Larder.unpackL_get _ _ _ (by omega), runL_at _ _ _ _ (by unfold Larder.wn; omega)]
  unfold rawByte
  rw [show (from' % 8 + i) % 8 = (from' + i) % 8 by omega, show b0 + from' / 8 + (from' % 8 + i) / 8 = b0 + (from' + i) / 8 by omega]

theorem obj_raws (ws : List Nat) (hs : List Bool) (used : Nat) (at' : Int) : (objRes ws hs used at').2.2.1 < 16777216 := by
  unfold objRes
  split
  · split
    · decide
    · exact Nat.mod_lt _ (by decide)
  · decide
theorem bytes_no {p bw bh : Nat} {ws : List Nat} {hs : List Bool} {used : Nat} (at' from' n : Int) (w : World) (hf1 : from' ≤ 9223372036854775807) (hf2 : -9223372036854775808 ≤ from') (h : Ar w p bw bh ws hs used) (hh : Heads ws hs used) (f : Nat) (hf : f = spanErr ws hs used at' from' n) (hne : f ≠ 0) :
    Calls Try.prog 29 #[.pointer (some ⟨p, 0, none⟩), .int .i64 at', .int .i64 from', .int .i64 n] w fun e w' => e = .returned (.tuple #[.slice none 0 0, .int .i64 f]) ∧ Below w.heap.size w w' := by
  have HR := hide (run_no at' from' n w hf1 hf2 h hh f hf hne)
  have e1 : ((f : Int) == 0) = false := by rw [beq_eq_false_iff_ne]; omega
  clear h hh hf hne
  go_enter Try.func29, Try.ntmps29
  go_wp2_with fail
  refine (unhide HR).mono ?_
  rintro e w1 ⟨rfl, hb1⟩
  go_wp2
  go_ret2
  exact ⟨rfl, hb1⟩
end Go.Proofs.Ytdgdnpgjbphgaab
