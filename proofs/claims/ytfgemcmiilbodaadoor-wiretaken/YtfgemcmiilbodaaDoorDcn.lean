/- Decode: numbers and their beginnings. -/
import Derived.Test.YtfgemcmiilbodaaDoorNumber
import Derived.Test.YtfgemcmiilbodaaDoorDcM
import Derived.Test.YtfgemcmiilbodaaDoorWrd
namespace Go.Proofs.YtfgemcmiilbodaaDoor
open Go.ChangeShapes Go.WideShapes Go.ChangeAt Go.RowKit
set_option linter.unusedVariables false
set_option linter.unusedSimpArgs false
set_option maxRecDepth 20000
set_option maxHeartbeats 4000000

/-- number -/
theorem dnumber_any (w : World) (a : Option Addr) (n cp : Nat) (T : List Nat) (lo hi : Int) (hn : n = T.length) (hB : Bytes w a T) (hs : Small T) (hc : n ≤ cp ∧ cp ≤ 9223372036854775807) (hl : n ≤ 140737488355328) (hlo : -9223372036854775808 ≤ lo ∧ lo ≤ 9223372036854775807) (hhi : -9223372036854775808 ≤ hi ∧ hi ≤ 9223372036854775807) :
    Calls Tryd.prog 32 #[.slice a n cp, .int .i64 lo, .int .i64 hi] w fun e w' => e = .returned (.tuple #[.int .i64 ((Larder8.numV lo hi T).getD 0), .bool (Larder8.numV lo hi T).isSome]) ∧ w' = w := by
  subst hn
  have CI := hide (int_any a cp w T hl hs hc.1 hc.2 hB)
  obtain ⟨v, hv⟩ : ∃ v, v = (Larder.intRes T).1 := ⟨_, rfl⟩
  obtain ⟨er, her⟩ : ∃ er, er = (Larder.intRes T).2 := ⟨_, rfl⟩
  have E : Larder8.numV lo hi T = if er = 0 ∧ lo ≤ v ∧ v ≤ hi then some v else none := by rw [hv, her]; rfl
  rw [← hv, ← her] at CI
  rw [E]
  clear hv her E hB hs
  by_cases h0 : er = 0
  · subst h0
    by_cases h1 : lo ≤ v
    · have f1 : decide (v < lo) = false := decide_eq_false (by omega)
      by_cases h2 : v ≤ hi
      · have f2 : decide (hi < v) = false := decide_eq_false (by omega)
        have f2' : decide (v > hi) = false := f2
        rw [if_pos ⟨rfl, h1, h2⟩]
        go_enter Tryd.func32, Tryd.ntmps32
        go_wp2_with (go_at_call 42; refine (unhide CI).mono ?_; rintro e w5 ⟨rfl, h5⟩; subst h5)
        go_ret2
        exact ⟨rfl, rfl⟩
      · have f2 : decide (hi < v) = true := decide_eq_true (by omega)
        have f2' : decide (v > hi) = true := f2
        rw [if_neg (by omega)]
        go_enter Tryd.func32, Tryd.ntmps32
        go_wp2_with (go_at_call 42; refine (unhide CI).mono ?_; rintro e w5 ⟨rfl, h5⟩; subst h5)
        go_ret2
        exact ⟨rfl, rfl⟩
    · have f1 : decide (v < lo) = true := decide_eq_true (by omega)
      rw [if_neg (by omega)]
      go_enter Tryd.func32, Tryd.ntmps32
      go_wp2_with (go_at_call 42; refine (unhide CI).mono ?_; rintro e w5 ⟨rfl, h5⟩; subst h5)
      go_ret2
      exact ⟨rfl, rfl⟩
  · have t0 : ((er : Int) == 0) = false := by rw [beq_eq_false_iff_ne]; omega
    have t0' : ((er : Int) != 0) = true := by rw [bne, t0]; rfl
    rw [if_neg (by omega)]
    go_enter Tryd.func32, Tryd.ntmps32
    go_wp2_with (go_at_call 42; refine (unhide CI).mono ?_; rintro e w5 ⟨rfl, h5⟩; subst h5)
    go_ret2
    exact ⟨rfl, rfl⟩
/-- begun -/
theorem dbegun_any (w : World) (a : Option Addr) (n cp : Nat) (T : List Nat) (lo hi : Int) (hn : n = T.length) (hB : Bytes w a T) (hs : Small T) (hc : n ≤ cp ∧ cp ≤ 9223372036854775807) (hl : n ≤ 140737488355328) (hlo : -9223372036854775808 ≤ lo ∧ lo ≤ 9223372036854775807) (hhi : -9223372036854775808 ≤ hi ∧ hi ≤ 9223372036854775807) :
    Calls Tryd.prog 31 #[.slice a n cp, .int .i64 lo, .int .i64 hi] w fun e w' => e = .returned (.bool (Larder8.begunP lo hi T)) ∧ w' = w := by
  have CN := hide (dnumber_any w a n cp T lo hi hn hB hs hc hl hlo hhi)
  have hcv : (convert 22 9 (.slice a n cp)).run Tryd.prog w = .ok (.string (strOfNums (T.map Int.ofNat))) w := by rw [hn]; exact conv_any a cp w T hB
  have e1 := strs_eq T [] hs (fun i hi => by simp at hi)
  have e2 := strs_eq T [45] hs (fun i hi => by simp at hi; subst hi; decide)
  obtain ⟨S, hS⟩ : ∃ S, S = strOfNums (T.map Int.ofNat) := ⟨_, rfl⟩
  rw [← hS] at hcv e1 e2
  obtain ⟨v, hv⟩ : ∃ v, v = (Larder8.numV lo hi T).getD 0 := ⟨_, rfl⟩
  obtain ⟨q, hq⟩ : ∃ q, q = (Larder8.numV lo hi T).isSome := ⟨_, rfl⟩
  rw [← hv, ← hq] at CN
  have E : Larder8.begunP lo hi T = if T = [] then true else if T = [45] then decide (lo < 0) else q := by rw [hq]; rfl
  rw [E]
  clear E hS hv hq hB hs hn
  have z1 : (strOfNums (([] : List Nat).map Int.ofNat)).toList = [] := by unfold strOfNums; rw [toList_mk1]; rfl
  have z2 : (strOfNums (([45] : List Nat).map Int.ofNat)).toList = [45] := by unfold strOfNums; rw [toList_mk1]; rfl
  rw [z1] at e1
  rw [z2] at e2
  have e1' : S.toList.isEmpty = decide (T = []) := by
    rw [← e1]
    cases S.toList <;> rfl
  clear z1 z2 e1
  by_cases h0 : T = []
  · rw [if_pos h0]
    rw [decide_eq_true h0] at e1'
    clear e2 h0
    go_enter Tryd.func31, Tryd.ntmps31
    go_wp2
    go_ret
    exact ⟨rfl, rfl⟩
  · rw [if_neg h0]
    rw [decide_eq_false h0] at e1'
    by_cases h1 : T = [45]
    · rw [if_pos h1]
      rw [decide_eq_true h1] at e2
      clear h0 h1
      go_enter Tryd.func31, Tryd.ntmps31
      go_wp2
      go_ret
      exact ⟨rfl, rfl⟩
    · rw [if_neg h1]
      rw [decide_eq_false h1] at e2
      clear h0 h1
      go_enter Tryd.func31, Tryd.ntmps31
      go_wp2_with (go_at_call 32; refine (unhide CN).mono ?_; rintro e w5 ⟨rfl, h5⟩; subst h5)
      go_ret
      exact ⟨rfl, rfl⟩
end Go.Proofs.YtfgemcmiilbodaaDoor
