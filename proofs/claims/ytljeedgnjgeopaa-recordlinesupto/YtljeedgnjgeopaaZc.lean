/- record: the law's num, into, whole. -/
import Derived.Test.YtljeedgnjgeopaaZb
namespace Go.Proofs.Ytljeedgnjgeopaa
open Go.ChangeShapes Go.WideShapes Go.ChangeAt Go.RowKit Go.Shelf
set_option linter.unusedVariables false
set_option linter.unusedSimpArgs false
set_option maxRecDepth 100000
set_option maxHeartbeats 4000000
theorem num_any (w : World) (x : Nat) (hx : x < 1000) : Calls Try.prog 17 #[.int .i64 (x : Nat)] w fun e w' => e = .returned (.int .i64 (x : Nat)) ∧ w' = w := by
  have f1 : IntKind.i64.wrap (x : Int) = (x : Int) := by rw [IntKind.wrap_i64]; omega
  go_enter Try.func17, Try.ntmps17
  go_wp2
  go_ret
  exact ⟨rfl, rfl⟩
/-- what into answers -/
def intoN (n : Int) (m : Nat) : Nat := (if n.tmod m < 0 then n.tmod m + m else n.tmod m).toNat
theorem intoN_lt (n : Int) {m : Nat} (hm : 0 < m) : intoN n m < m := by
  have z1 : -(m : Int) < n.tmod m := Int.lt_tmod_of_pos n (by omega)
  have z2 : n.tmod m < m := Int.tmod_lt_of_pos n (by omega)
  unfold intoN
  split <;> omega
theorem into_any (w : World) (n : Int) (m : Nat) (hm : 0 < m) (hm2 : m ≤ 1152921504606846976) : Calls Try.prog 10 #[.int .i64 n, .int .i64 (m : Nat)] w fun e w' => e = .returned (.int .i64 (intoN n m : Nat)) ∧ w' = w := by
  have z1 : -(m : Int) < n.tmod m := Int.lt_tmod_of_pos n (by omega)
  have z2 : n.tmod m < m := Int.tmod_lt_of_pos n (by omega)
  have f0 : ¬ (m : Int) = 0 := by omega
  have f0' : ((m : Int) == 0) = false := beq_eq_false_iff_ne.2 f0
  have f0n : ¬ m = 0 := by omega
  have f1 : IntKind.i64.wrap (n.tmod m) = n.tmod m := by rw [IntKind.wrap_i64]; omega
  have f1b : wrap64 (n.tmod m) = n.tmod m := by (clear f1; unfold wrap64; omega)
  have f2 : IntKind.i64.wrap (n.tmod m + m) = n.tmod m + m := by rw [IntKind.wrap_i64]; (clear f1 f1b; omega)
  have f2b : wrap64 (n.tmod m + m) = n.tmod m + m := by (clear f1 f2 f1b; unfold wrap64; omega)
  by_cases hk : n.tmod m < 0
  · have f3 : decide (n.tmod m < 0) = true := decide_eq_true hk
    have HR : Hid ((intoN n m : Int) = n.tmod m + m) := hide (by unfold intoN; rw [if_pos hk]; clear f1 f2 f1b f2b; omega)
    clear z1 z2 hk
    go_enter Try.func10, Try.ntmps10
    go_wp2
    go_ret
    exact ⟨congrArg (fun z => Ending.returned (.int .i64 z)) (unhide HR).symm, rfl⟩
  · have f3 : decide (n.tmod m < 0) = false := decide_eq_false hk
    have HR : Hid ((intoN n m : Int) = n.tmod m) := hide (by unfold intoN; rw [if_neg hk]; clear f1 f2 f1b f2b; omega)
    clear z1 z2 hk
    go_enter Try.func10, Try.ntmps10
    go_wp2
    go_ret
    exact ⟨congrArg (fun z => Ending.returned (.int .i64 z)) (unhide HR).symm, rfl⟩
/-- a list of numbers in memory -/
def NB (w : World) (a : Option Addr) (l : List Nat) : Prop := l = [] ∨ ∃ b off, a = some ⟨b, off, none⟩ ∧ b < w.heap.size ∧ ∀ i x, l[i]? = some x → w.cell? ⟨b, off + i, none⟩ = some (.int .i64 (x : Nat))
theorem NB.below {w w' : World} {a : Option Addr} {l : List Nat} (h : NB w a l) (hb : Below w.heap.size w w') : NB w' a l := by
  rcases h with h | ⟨b, off, e, hl, hc⟩
  · exact .inl h
  · exact .inr ⟨b, off, e, Nat.lt_of_lt_of_le hl hb.size, fun i x hi => (hb.cell (p := ⟨b, _, none⟩) hl).trans (hc i x hi)⟩
/-- how many of the ends are at most n -/
def wholeK (l : List Nat) (n : Nat) : Nat := (l.takeWhile fun e => decide (e ≤ n)).length
theorem wholeK_le (l : List Nat) (n : Nat) : wholeK l n ≤ l.length := (List.takeWhile_sublist _).length_le
theorem wholeK_drop {l : List Nat} {n k x : Nat} (hk : l[k]? = some x) (h : wholeK l n = k + wholeK (l.drop k) n) : (x ≤ n → wholeK l n = k + 1 + wholeK (l.drop (k + 1)) n) ∧ (n < x → wholeK l n = k) := by
  have hlt := (List.getElem?_eq_some_iff.1 hk).1
  have hx : l[k] = x := (List.getElem?_eq_some_iff.1 hk).2
  rw [List.drop_eq_getElem_cons hlt, hx] at h
  unfold wholeK at h ⊢
  rw [List.takeWhile_cons] at h
  refine ⟨fun hxn => ?_, fun hxn => ?_⟩
  · rw [if_pos (by simpa using hxn), List.length_cons] at h
    omega
  · rw [if_neg (by simpa using hxn)] at h
    simpa using h
theorem whole_any (w : World) (a : Option Addr) (m c : Nat) (l : List Nat) (n : Nat) (hm : m = l.length) (hA : NB w a l) (hm2 : m ≤ 1152921504606846976) : Calls Try.prog 12 #[.slice a m c, .int .i64 (n : Nat)] w fun e w' => e = .returned (.int .i64 (wholeK l n : Nat)) ∧ w' = w := by
  have HA := hide hA
  have HM := hide hm
  clear hA hm
  go_enter Try.func12, Try.ntmps12
  go_wp2_with fail
  go_loopw [5] (fun iv wr => ∃ i : Nat, iv = .int .i64 ((i : Nat) : Int) ∧ i ≤ m ∧ Hid (wr = w ∧ wholeK l n = i + wholeK (l.drop i) n)) (fun iv _ => m - (intOf iv).toNat)
  case atStart => exact ⟨0, rfl, Nat.zero_le _, hide ⟨rfl, by rw [Nat.zero_add, List.drop_zero]⟩⟩
  case round =>
    obtain ⟨i, rfl, hi, HW⟩ := hrel
    obtain ⟨hw, hk⟩ := unhide HW
    subst hw
    by_cases hin : i < m
    · have f1 : decide ((i : Int) < (m : Int)) = true := decide_eq_true (by omega)
      have f2 : decide (i < m) = true := decide_eq_true hin
      have g1 : (0 : Int) ≤ (i : Int) := by omega
      have g2 : (i : Int) < (m : Int) := by omega
      obtain ⟨x, hx⟩ : ∃ x, l[i]? = some x := ⟨_, List.getElem?_eq_getElem (by have := unhide HM; omega)⟩
      obtain ⟨z1, z2⟩ := wholeK_drop hx hk
      obtain ⟨b, off, rfl, k1⟩ : ∃ b off, a = some ⟨b, off, none⟩ ∧ wr.cell? ⟨b, off + i, none⟩ = some (.int .i64 (x : Nat)) := by
        rcases unhide HA with h | ⟨b, off, e, hl, hc⟩
        · rw [h] at hx; cases hx
        · exact ⟨b, off, e, hc i x hx⟩
      by_cases hxn : x ≤ n
      · have f3 : decide ((x : Int) ≤ (n : Int)) = true := decide_eq_true (by omega)
        have f4 : decide (x ≤ n) = true := decide_eq_true hxn
        have HZ := hide (z1 hxn)
        clear z1 z2 hx hk hxn HW
        go_wp2_with fail
        all_goals exact ⟨⟨i + 1, congrArg (Value.int .i64) (by omega), by omega, hide ⟨trivial, unhide HZ⟩⟩, by simp [intOf]; omega⟩
      · have f3 : decide ((x : Int) ≤ (n : Int)) = false := decide_eq_false (by omega)
        have f4 : decide (x ≤ n) = false := decide_eq_false hxn
        have HZ := hide (z2 (by omega))
        clear z1 z2 hx hk hxn HW
        go_wp2_with fail
        go_ret
        exact ⟨by rw [unhide HZ]; rfl, rfl⟩
    · obtain rfl : m = i := by omega
      have f1 : decide ((m : Int) < (m : Int)) = false := decide_eq_false (by omega)
      have f9 : decide (m < m) = false := decide_eq_false (by omega)
      have HZ : Hid (wholeK l n = m) := hide (by rw [hk, unhide HM, List.drop_length]; rfl)
      clear hk HW
      go_wp2_with fail
      go_ret
      exact ⟨by rw [unhide HZ]; rfl, rfl⟩
end Go.Proofs.Ytljeedgnjgeopaa
