/- The document's Block. -/
import Derived.Test.YtfebiemfmiahhaaMg
namespace Go.Proofs.Ytfebiemfmiahhaa
open Go.ChangeShapes Go.WideShapes Go.ChangeAt Go.RowKit Go.Maps
set_option linter.unusedVariables false
set_option linter.unusedSimpArgs false
set_option maxRecDepth 100000
set_option maxHeartbeats 8000000
def refW (L : List Wt) (c k : Int) (l : List Pl) (t : Nat) : Int := if c < 0 ∨ 8 ≤ c then 180 else if (lookW L c).isSome then 181 else if k ≠ 2 ∧ k ≠ 5 then 184 else if badB l = true then 182 else if 4503599627370496 < t then 183 else 0
theorem refR_map (E : List En) (c k : Int) (l : List Pl) (t : Nat) : refR E c k l t = refW (E.map (·.x)) c k l t := by
  unfold refR refW badB
  rw [← lookE_map]
  simp only [Option.isSome_map, decide_eq_true_eq]
theorem find_lt {L : List Wt} {c : Int} : decide (findI L c < 0) = !(lookW L c).isSome ∧ decide ((0 : Int) ≤ findI L c) = (lookW L c).isSome := by
  cases hf : findW L c with
  | none => rw [find_nolook hf]; unfold findI; rw [hf]; exact ⟨by decide, by decide⟩
  | some i =>
    obtain ⟨x, -, hl, -⟩ := find_look hf
    rw [hl]; unfold findI; rw [hf]
    exact ⟨decide_eq_false (by show ¬ ((i : Int) < 0); omega), decide_eq_true (by show (0 : Int) ≤ (i : Int); omega)⟩
theorem rblock_no (Q : Nat → Prop) (w : World) (p : Nat) (L : List Wt) (c k : Int) (a : Option Addr) (n cap : Nat) (l : List Pl) (t : Nat) (h : RAt Q w p L) (hl : PlsAt w a l) (hn : n = l.length) (hll : n ≤ 9223372036854775807) (hok : ∀ x ∈ l, POk x) (hr : refW L c k l t ≠ 0) :
    Calls Try.prog 47 #[.pointer (some ⟨p, 0, none⟩), .int .i64 c, .int .i64 k, .slice a n cap, .int .u64 (t : Nat)] w fun e w' => e = .returned (.int .i64 (refW L c k l t)) ∧ w' = w := by
  have C1 := find_any Q w p L c h
  have C2 := bad_any w a cap l n hn hll hl hok
  obtain ⟨fi, hfi⟩ : ∃ fi, fi = findI L c := ⟨_, rfl⟩
  have hf := (find_lt (L := L) (c := c)).2
  rw [← hfi] at C1 hf
  obtain ⟨B, hB⟩ : ∃ B, B = badB l := ⟨_, rfl⟩
  rw [← hB] at C2
  obtain ⟨s, hs⟩ : ∃ s, s = (lookW L c).isSome := ⟨_, rfl⟩
  rw [← hs] at hf
  unfold refW at hr ⊢
  rw [← hs, ← hB] at hr ⊢
  clear hs hB hfi hl h hn hok
  by_cases h1 : c < 0
  · have f1 : decide (c < 0) = true := decide_eq_true h1
    rw [if_pos (.inl h1)]
    clear hr hf
    go_enter Try.func47, Try.ntmps47
    go_wp2_with fail
    go_ret
    exact ⟨rfl, rfl⟩
  have f1 : decide (c < 0) = false := decide_eq_false h1
  by_cases h2 : 8 ≤ c
  · have f2 : decide ((8 : Int) ≤ c) = true := decide_eq_true h2
    rw [if_pos (.inr h2)]
    clear hr hf
    go_enter Try.func47, Try.ntmps47
    go_wp2_with fail
    go_ret
    exact ⟨rfl, rfl⟩
  have f2 : decide ((8 : Int) ≤ c) = false := decide_eq_false h2
  rw [if_neg (by omega)] at hr ⊢
  cases s with
  | true =>
    rw [if_pos rfl]
    clear hr
    go_enter Try.func47, Try.ntmps47
    go_wp2_with (go_at_call 61; refine C1.mono ?_; clear C1; rintro e w1 ⟨rfl, rfl⟩)
    go_ret
    exact ⟨rfl, rfl⟩
  | false =>
  rw [if_neg (by simp)] at hr ⊢
  by_cases h3 : k ≠ 2 ∧ k ≠ 5
  · rw [if_pos h3]
    have f3 : (k != 2) = true := by simpa using h3.1
    have f4 : (k != 5) = true := by simpa using h3.2
    clear hr h3
    go_enter Try.func47, Try.ntmps47
    go_wp2_with (go_at_call 61; refine C1.mono ?_; clear C1; rintro e w1 ⟨rfl, rfl⟩)
    go_ret
    exact ⟨rfl, rfl⟩
  rw [if_neg h3] at hr ⊢
  have h3' : k = 2 ∨ k = 5 := by omega
  clear h3
  cases B with
  | true =>
    rw [if_pos rfl]
    clear hr
    rcases h3' with rfl | rfl
    all_goals go_enter Try.func47, Try.ntmps47
    all_goals go_wp2_with (first | (go_at_call 61; refine C1.mono ?_; clear C1; rintro e w1 ⟨rfl, rfl⟩) | (go_at_call 62; refine C2.mono ?_; clear C2; rintro e w2 ⟨rfl, rfl⟩))
    all_goals go_ret
    all_goals exact ⟨rfl, rfl⟩
  | false =>
  rw [if_neg (by simp)] at hr ⊢
  by_cases h4 : 4503599627370496 < t
  · rw [if_pos h4]
    have f5 : decide ((4503599627370496 : Int) < (t : Int)) = true := decide_eq_true (by omega)
    clear hr h4
    rcases h3' with rfl | rfl
    all_goals go_enter Try.func47, Try.ntmps47
    all_goals go_wp2_with (first | (go_at_call 61; refine C1.mono ?_; clear C1; rintro e w1 ⟨rfl, rfl⟩) | (go_at_call 62; refine C2.mono ?_; clear C2; rintro e w2 ⟨rfl, rfl⟩))
    all_goals go_ret
    all_goals exact ⟨rfl, rfl⟩
  rw [if_neg h4] at hr
  exact absurd rfl hr
end Go.Proofs.Ytfebiemfmiahhaa
