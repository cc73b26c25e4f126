/- run, Bytes, SetBytes. -/
import Derived.Test.YtdgdnpgjbphgaaaImage
import Derived.Test.YtdgdnpgjbphgaaaUnpack
import Derived.Test.YtdgdnpgjbphgaaaSame
namespace Go.Proofs.Ytdgdnpgjbphgaaa
open Go.ChangeShapes Go.WideShapes Go.ChangeAt Go.RowKit
set_option linter.unusedVariables false
set_option maxRecDepth 100000
set_option maxHeartbeats 2000000

theorem run_yes {p bw bh : Nat} {ws : List Nat} {hs : List Bool} {used : Nat} (k from' n : Nat) (w : World) (h : Ar w p bw bh ws hs used) (hh : Heads ws hs used) (he : (objRes ws hs used k).2.2.2 = 0) (hn : from' + n ≤ 8 * (objRes ws hs used k).2.2.1) :
    Calls Try.prog 41 #[.pointer (some ⟨p, 0, none⟩), .int .i64 k, .int .i64 from', .int .i64 n] w fun e w' => (∃ off, e = .returned (.tuple #[.slice (some ⟨bw, off, none⟩) (Larder.wn (from' + n) - from' / 8) (Larder.wn (from' + n) - from' / 8), .int .i64 0]) ∧
      (0 < Larder.wn (from' + n) - from' / 8 → off = k + 1 + (objRes ws hs used k).2.1 + from' / 8)) ∧ Below w.heap.size w w' ∧ k + 1 + (objRes ws hs used k).2.1 + (objRes ws hs used k).2.2.1 ≤ used := by
  have HF := hide (fields_yes k w h hh he)
  have hu := h.u2
  have hz := h.sz
  generalize (objRes ws hs used k).2.1 = r at *
  generalize (objRes ws hs used k).2.2.1 = s at *
  clear h hh he
  have HWD : Hid (∀ w', r + s ≤ 1048576 → Calls Try.prog 57 #[.int .i64 ((from' : Int) + n)] w' fun e w'' => e = .returned (.int .i64 (Larder.wn (from' + n) : Nat)) ∧ w'' = w') := hide (fun w' hrs => by
    have h := words_any ((from' : Int) + n) w' (by omega) (by omega)
    have e : wordsI ((from' : Int) + n) = (Larder.wn (from' + n) : Nat) := by unfold wordsI Larder.wn; split <;> omega
    rw [e] at h
    exact h)
  obtain ⟨hi, hhi⟩ : ∃ hi, hi = Larder.wn (from' + n) := ⟨_, rfl⟩
  obtain ⟨lo, hlo⟩ : ∃ lo, lo = from' / 8 := ⟨_, rfl⟩
  have h1 : hi ≤ s := by rw [hhi]; unfold Larder.wn; omega
  have h2 : lo ≤ hi := by rw [hhi, hlo]; unfold Larder.wn; omega
  have hq : (from' : Int) / 8 = (lo : Int) := by omega
  rw [← hhi, ← hlo]
  rw [← hhi] at HWD
  obtain ⟨d, hd⟩ : ∃ d, d = hi - lo := ⟨_, rfl⟩
  rw [← hd]
  have e0 : decide ((from' : Int) < 0) = false := decide_eq_false (by omega)
  have e1 : decide ((n : Int) < 0) = false := decide_eq_false (by omega)
  clear hhi hlo
  go_enter Try.func41, Try.ntmps41
  go_wp2_with fail
  refine (unhide HF).mono ?_
  rintro e w1 ⟨⟨off, rfl, hoff⟩, hb1, hfit⟩
  have hs8 : r + s ≤ 1048576 := by omega
  have HO := hide hoff
  have HFI := hide hfit
  clear hoff
  have e2 : decide ((8 * s : Int) - (from' : Int) < (n : Int)) = false := decide_eq_false (by omega)
  by_cases hs0 : s = 0
  · have hh0 : hi = 0 := by omega
    have hl0 : lo = 0 := by omega
    subst hs0
    subst hh0
    subst hl0
    have hd0 : d = 0 := by omega
    subst hd0
    clear hd
    go_wp2_with fail
    refine (unhide HWD w1 hs8).mono ?_
    rintro e w' ⟨rfl, hw'⟩
    obtain rfl := hw'.symm
    go_wp2
    go_ret2
    exact ⟨⟨_, rfl, fun h => by omega⟩, hb1, hfit⟩
  · have ho := unhide HO (by omega)
    subst ho
    by_cases hhl : hi = lo
    · subst hhl
      have hd0 : d = 0 := by omega
      subst hd0
      clear hd
      go_wp2_with fail
      refine (unhide HWD w1 hs8).mono ?_
      rintro e w' ⟨rfl, hw'⟩
      obtain rfl := hw'.symm
      go_wp2
      all_goals
        go_ret2
        exact ⟨⟨_, rfl, fun h => by omega⟩, hb1, hfit⟩
    · subst hd
      go_wp2_with fail
      refine (unhide HWD w1 hs8).mono ?_
      rintro e w' ⟨rfl, hw'⟩
      obtain rfl := hw'.symm
      go_wp2
      go_ret2
      exact ⟨⟨_, rfl, fun _ => rfl⟩, hb1, hfit⟩

/-- the error of a call about the raws' bytes -/
def spanErr (ws : List Nat) (hs : List Bool) (used : Nat) (at' from' n : Int) : Nat :=
  if (objRes ws hs used at').2.2.2 ≠ 0 then (objRes ws hs used at').2.2.2
  else if 0 ≤ from' ∧ 0 ≤ n ∧ from' + n ≤ 8 * ((objRes ws hs used at').2.2.1 : Nat) then 0 else 25

theorem run_no {p bw bh : Nat} {ws : List Nat} {hs : List Bool} {used : Nat} (at' from' n : Int) (w : World) (hf1 : from' ≤ 9223372036854775807) (hf2 : -9223372036854775808 ≤ from') (h : Ar w p bw bh ws hs used) (hh : Heads ws hs used) (f : Nat) (hf : f = spanErr ws hs used at' from' n) (hne : f ≠ 0) :
    Calls Try.prog 41 #[.pointer (some ⟨p, 0, none⟩), .int .i64 at', .int .i64 from', .int .i64 n] w fun e w' => e = .returned (.tuple #[.slice none 0 0, .int .i64 f]) ∧ Below w.heap.size w w' := by
  unfold spanErr at hf
  have e1 : ((f : Int) == 0) = false := by rw [beq_eq_false_iff_ne]; omega
  by_cases h0 : (objRes ws hs used at').2.2.2 ≠ 0
  · rw [if_pos h0] at hf
    have HF := hide (fields_no at' w h hh f hf hne)
    clear h hh hf h0 hne
    go_enter Try.func41, Try.ntmps41
    go_wp2_with fail
    refine (unhide HF).mono ?_
    rintro e w1 ⟨rfl, hb1⟩
    go_wp2
    go_ret2
    exact ⟨rfl, hb1⟩
  · rw [if_neg h0] at hf
    have he : (objRes ws hs used at').2.2.2 = 0 := by omega
    obtain ⟨k, rfl, hk1⟩ := obj_nat he
    have HF := hide (fields_yes k w h hh he)
    have hu := h.u2
    have hz := h.sz
    generalize (objRes ws hs used k).2.1 = r at *
    generalize (objRes ws hs used k).2.2.1 = s at *
    by_cases hi : 0 ≤ from' ∧ 0 ≤ n ∧ from' + n ≤ 8 * ((s : Nat) : Int)
    · rw [if_pos hi] at hf; exact absurd hf hne
    · rw [if_neg hi] at hf
      subst hf
      clear h hh he h0 hne e1
      by_cases hn1 : from' < 0
      · have e2 : decide (from' < 0) = true := decide_eq_true hn1
        go_enter Try.func41, Try.ntmps41
        go_wp2_with fail
        refine (unhide HF).mono ?_
        rintro e w1 ⟨⟨off, rfl, hoff⟩, hb1, hfit⟩
        clear hoff
        go_wp2
        all_goals
          go_ret2
          exact ⟨rfl, hb1⟩
      · have e2 : decide (from' < 0) = false := decide_eq_false hn1
        by_cases hn2 : n < 0
        · have e3 : decide (n < 0) = true := decide_eq_true hn2
          go_enter Try.func41, Try.ntmps41
          go_wp2_with fail
          refine (unhide HF).mono ?_
          rintro e w1 ⟨⟨off, rfl, hoff⟩, hb1, hfit⟩
          clear hoff
          go_wp2
          all_goals
            go_ret2
            exact ⟨rfl, hb1⟩
        · have e3 : decide (n < 0) = false := decide_eq_false hn2
          have hgt : 8 * (s : Int) - from' < n := by omega
          have HGT := hide hgt
          go_enter Try.func41, Try.ntmps41
          go_wp2_with fail
          refine (unhide HF).mono ?_
          rintro e w1 ⟨⟨off, rfl, hoff⟩, hb1, hfit⟩
          clear hoff
          by_cases hs0 : s = 0
          · subst hs0
            have e4 : decide (-from' < n) = true := decide_eq_true (by omega)
            have e5 : decide (0 - from' < n) = true := decide_eq_true (by omega)
            clear hi hgt
            go_wp2
            go_ret2
            exact ⟨rfl, hb1⟩
          · have e4 : decide (8 * (s : Int) - from' < n) = true := decide_eq_true hgt
            clear hi hgt
            go_wp2
            go_ret2
            exact ⟨rfl, hb1⟩
end Go.Proofs.Ytdgdnpgjbphgaaa
