/- The document's Text. -/
import Derived.Test.YtochdajeocganaaApiText
namespace Go.Proofs.Ytochdajeocganaa
open Go.ChangeShapes Go.WideShapes Go.ChangeAt Go.RowKit
set_option linter.unusedVariables false
set_option maxRecDepth 100000

theorem more12 (w : World) : Calls Try.prog 43 #[.int .i64 313] w fun e w' => e = .returned (.string (textsL.getD 12 ⟨#[]⟩)) ∧ w' = w := by
  go_enter Try.func43, Try.ntmps43
  go_wp2
  go_ret
  exact ⟨rfl, rfl⟩
theorem more13 (w : World) : Calls Try.prog 43 #[.int .i64 314] w fun e w' => e = .returned (.string (textsL.getD 13 ⟨#[]⟩)) ∧ w' = w := by
  go_enter Try.func43, Try.ntmps43
  go_wp2
  go_ret
  exact ⟨rfl, rfl⟩
theorem more14 (w : World) : Calls Try.prog 43 #[.int .i64 315] w fun e w' => e = .returned (.string (textsL.getD 14 ⟨#[]⟩)) ∧ w' = w := by
  go_enter Try.func43, Try.ntmps43
  go_wp2
  go_ret
  exact ⟨rfl, rfl⟩
theorem more15 (w : World) : Calls Try.prog 43 #[.int .i64 316] w fun e w' => e = .returned (.string (textsL.getD 15 ⟨#[]⟩)) ∧ w' = w := by
  go_enter Try.func43, Try.ntmps43
  go_wp2
  go_ret
  exact ⟨rfl, rfl⟩
theorem more16 (w : World) : Calls Try.prog 43 #[.int .i64 317] w fun e w' => e = .returned (.string (textsL.getD 16 ⟨#[]⟩)) ∧ w' = w := by
  go_enter Try.func43, Try.ntmps43
  go_wp2
  go_ret
  exact ⟨rfl, rfl⟩
theorem more17 (w : World) : Calls Try.prog 43 #[.int .i64 318] w fun e w' => e = .returned (.string (textsL.getD 17 ⟨#[]⟩)) ∧ w' = w := by
  go_enter Try.func43, Try.ntmps43
  go_wp2
  go_ret
  exact ⟨rfl, rfl⟩
theorem more18 (w : World) : Calls Try.prog 43 #[.int .i64 319] w fun e w' => e = .returned (.string (textsL.getD 18 ⟨#[]⟩)) ∧ w' = w := by
  go_enter Try.func43, Try.ntmps43
  go_wp2
  go_ret
  exact ⟨rfl, rfl⟩
theorem more19 (w : World) : Calls Try.prog 43 #[.int .i64 320] w fun e w' => e = .returned (.string (textsL.getD 19 ⟨#[]⟩)) ∧ w' = w := by
  go_enter Try.func43, Try.ntmps43
  go_wp2
  go_ret
  exact ⟨rfl, rfl⟩
theorem more20 (w : World) : Calls Try.prog 43 #[.int .i64 321] w fun e w' => e = .returned (.string (textsL.getD 20 ⟨#[]⟩)) ∧ w' = w := by
  go_enter Try.func43, Try.ntmps43
  go_wp2
  go_ret
  exact ⟨rfl, rfl⟩
theorem more21 (w : World) : Calls Try.prog 43 #[.int .i64 322] w fun e w' => e = .returned (.string (textsL.getD 21 ⟨#[]⟩)) ∧ w' = w := by
  go_enter Try.func43, Try.ntmps43
  go_wp2
  go_ret
  exact ⟨rfl, rfl⟩
theorem more22 (w : World) : Calls Try.prog 43 #[.int .i64 323] w fun e w' => e = .returned (.string (textsL.getD 22 ⟨#[]⟩)) ∧ w' = w := by
  go_enter Try.func43, Try.ntmps43
  go_wp2
  go_ret
  exact ⟨rfl, rfl⟩
theorem more23 (w : World) : Calls Try.prog 43 #[.int .i64 324] w fun e w' => e = .returned (.string (textsL.getD 23 ⟨#[]⟩)) ∧ w' = w := by
  go_enter Try.func43, Try.ntmps43
  go_wp2
  go_ret
  exact ⟨rfl, rfl⟩
theorem more24 (w : World) : Calls Try.prog 43 #[.int .i64 325] w fun e w' => e = .returned (.string (textsL.getD 24 ⟨#[]⟩)) ∧ w' = w := by
  go_enter Try.func43, Try.ntmps43
  go_wp2
  go_ret
  exact ⟨rfl, rfl⟩
theorem more_out (n : Int) (h : n < 313 ∨ 325 < n) (w : World) : Calls Try.prog 43 #[.int .i64 n] w fun e w' => e = .returned (.string ⟨#[]⟩) ∧ w' = w := by
  have e313 : (n == 313) = false := by rw [beq_eq_false_iff_ne]; omega
  have e314 : (n == 314) = false := by rw [beq_eq_false_iff_ne]; omega
  have e315 : (n == 315) = false := by rw [beq_eq_false_iff_ne]; omega
  have e316 : (n == 316) = false := by rw [beq_eq_false_iff_ne]; omega
  have e317 : (n == 317) = false := by rw [beq_eq_false_iff_ne]; omega
  have e318 : (n == 318) = false := by rw [beq_eq_false_iff_ne]; omega
  have e319 : (n == 319) = false := by rw [beq_eq_false_iff_ne]; omega
  have e320 : (n == 320) = false := by rw [beq_eq_false_iff_ne]; omega
  have e321 : (n == 321) = false := by rw [beq_eq_false_iff_ne]; omega
  have e322 : (n == 322) = false := by rw [beq_eq_false_iff_ne]; omega
  have e323 : (n == 323) = false := by rw [beq_eq_false_iff_ne]; omega
  have e324 : (n == 324) = false := by rw [beq_eq_false_iff_ne]; omega
  have e325 : (n == 325) = false := by rw [beq_eq_false_iff_ne]; omega
  clear h
  go_enter Try.func43, Try.ntmps43
  go_wp2
  go_ret
  exact ⟨rfl, rfl⟩
theorem rtext0 (w : World) : Calls Try.prog 30 #[.int .i64 301] w fun e w' => e = .returned (.string (textsL.getD 0 ⟨#[]⟩)) ∧ w' = w := by
  go_enter Try.func30, Try.ntmps30
  go_wp2
  go_ret
  exact ⟨rfl, rfl⟩
theorem rtext1 (w : World) : Calls Try.prog 30 #[.int .i64 302] w fun e w' => e = .returned (.string (textsL.getD 1 ⟨#[]⟩)) ∧ w' = w := by
  go_enter Try.func30, Try.ntmps30
  go_wp2
  go_ret
  exact ⟨rfl, rfl⟩
theorem rtext2 (w : World) : Calls Try.prog 30 #[.int .i64 303] w fun e w' => e = .returned (.string (textsL.getD 2 ⟨#[]⟩)) ∧ w' = w := by
  go_enter Try.func30, Try.ntmps30
  go_wp2
  go_ret
  exact ⟨rfl, rfl⟩
theorem rtext3 (w : World) : Calls Try.prog 30 #[.int .i64 304] w fun e w' => e = .returned (.string (textsL.getD 3 ⟨#[]⟩)) ∧ w' = w := by
  go_enter Try.func30, Try.ntmps30
  go_wp2
  go_ret
  exact ⟨rfl, rfl⟩
theorem rtext4 (w : World) : Calls Try.prog 30 #[.int .i64 305] w fun e w' => e = .returned (.string (textsL.getD 4 ⟨#[]⟩)) ∧ w' = w := by
  go_enter Try.func30, Try.ntmps30
  go_wp2
  go_ret
  exact ⟨rfl, rfl⟩
theorem rtext5 (w : World) : Calls Try.prog 30 #[.int .i64 306] w fun e w' => e = .returned (.string (textsL.getD 5 ⟨#[]⟩)) ∧ w' = w := by
  go_enter Try.func30, Try.ntmps30
  go_wp2
  go_ret
  exact ⟨rfl, rfl⟩
theorem rtext6 (w : World) : Calls Try.prog 30 #[.int .i64 307] w fun e w' => e = .returned (.string (textsL.getD 6 ⟨#[]⟩)) ∧ w' = w := by
  go_enter Try.func30, Try.ntmps30
  go_wp2
  go_ret
  exact ⟨rfl, rfl⟩
theorem rtext7 (w : World) : Calls Try.prog 30 #[.int .i64 308] w fun e w' => e = .returned (.string (textsL.getD 7 ⟨#[]⟩)) ∧ w' = w := by
  go_enter Try.func30, Try.ntmps30
  go_wp2
  go_ret
  exact ⟨rfl, rfl⟩
theorem rtext8 (w : World) : Calls Try.prog 30 #[.int .i64 309] w fun e w' => e = .returned (.string (textsL.getD 8 ⟨#[]⟩)) ∧ w' = w := by
  go_enter Try.func30, Try.ntmps30
  go_wp2
  go_ret
  exact ⟨rfl, rfl⟩
theorem rtext9 (w : World) : Calls Try.prog 30 #[.int .i64 310] w fun e w' => e = .returned (.string (textsL.getD 9 ⟨#[]⟩)) ∧ w' = w := by
  go_enter Try.func30, Try.ntmps30
  go_wp2
  go_ret
  exact ⟨rfl, rfl⟩
theorem rtext10 (w : World) : Calls Try.prog 30 #[.int .i64 311] w fun e w' => e = .returned (.string (textsL.getD 10 ⟨#[]⟩)) ∧ w' = w := by
  go_enter Try.func30, Try.ntmps30
  go_wp2
  go_ret
  exact ⟨rfl, rfl⟩
theorem rtext11 (w : World) : Calls Try.prog 30 #[.int .i64 312] w fun e w' => e = .returned (.string (textsL.getD 11 ⟨#[]⟩)) ∧ w' = w := by
  go_enter Try.func30, Try.ntmps30
  go_wp2
  go_ret
  exact ⟨rfl, rfl⟩
theorem rtext_more (n : Int) (h : n < 301 ∨ 312 < n) (S : ByteArray) (w : World) (hm : Calls Try.prog 43 #[.int .i64 n] w fun e w' => e = .returned (.string S) ∧ w' = w) :
    Calls Try.prog 30 #[.int .i64 n] w fun e w' => e = .returned (.string S) ∧ w' = w := by
  have e301 : (n == 301) = false := by rw [beq_eq_false_iff_ne]; omega
  have e302 : (n == 302) = false := by rw [beq_eq_false_iff_ne]; omega
  have e303 : (n == 303) = false := by rw [beq_eq_false_iff_ne]; omega
  have e304 : (n == 304) = false := by rw [beq_eq_false_iff_ne]; omega
  have e305 : (n == 305) = false := by rw [beq_eq_false_iff_ne]; omega
  have e306 : (n == 306) = false := by rw [beq_eq_false_iff_ne]; omega
  have e307 : (n == 307) = false := by rw [beq_eq_false_iff_ne]; omega
  have e308 : (n == 308) = false := by rw [beq_eq_false_iff_ne]; omega
  have e309 : (n == 309) = false := by rw [beq_eq_false_iff_ne]; omega
  have e310 : (n == 310) = false := by rw [beq_eq_false_iff_ne]; omega
  have e311 : (n == 311) = false := by rw [beq_eq_false_iff_ne]; omega
  have e312 : (n == 312) = false := by rw [beq_eq_false_iff_ne]; omega
  have HM := hide hm
  clear h hm
  go_enter Try.func30, Try.ntmps30
  go_wp2_with fail
  refine (unhide HM).mono ?_
  rintro e w' ⟨rfl, hw'⟩
  obtain rfl := hw'.symm
  go_wp2
  go_ret
  exact ⟨rfl, rfl⟩

theorem rtext_in (k : Nat) (hk : k < 25) (w : World) : Calls Try.prog 30 #[.int .i64 (301 + (k : Int))] w fun e w' => e = .returned (.string (textsL.getD k ⟨#[]⟩)) ∧ w' = w := by
  match k, hk with
  | 0, _ => exact rtext0 w
  | 1, _ => exact rtext1 w
  | 2, _ => exact rtext2 w
  | 3, _ => exact rtext3 w
  | 4, _ => exact rtext4 w
  | 5, _ => exact rtext5 w
  | 6, _ => exact rtext6 w
  | 7, _ => exact rtext7 w
  | 8, _ => exact rtext8 w
  | 9, _ => exact rtext9 w
  | 10, _ => exact rtext10 w
  | 11, _ => exact rtext11 w
  | 12, _ => exact rtext_more 313 (.inr (by decide)) _ w (more12 w)
  | 13, _ => exact rtext_more 314 (.inr (by decide)) _ w (more13 w)
  | 14, _ => exact rtext_more 315 (.inr (by decide)) _ w (more14 w)
  | 15, _ => exact rtext_more 316 (.inr (by decide)) _ w (more15 w)
  | 16, _ => exact rtext_more 317 (.inr (by decide)) _ w (more16 w)
  | 17, _ => exact rtext_more 318 (.inr (by decide)) _ w (more17 w)
  | 18, _ => exact rtext_more 319 (.inr (by decide)) _ w (more18 w)
  | 19, _ => exact rtext_more 320 (.inr (by decide)) _ w (more19 w)
  | 20, _ => exact rtext_more 321 (.inr (by decide)) _ w (more20 w)
  | 21, _ => exact rtext_more 322 (.inr (by decide)) _ w (more21 w)
  | 22, _ => exact rtext_more 323 (.inr (by decide)) _ w (more22 w)
  | 23, _ => exact rtext_more 324 (.inr (by decide)) _ w (more23 w)
  | 24, _ => exact rtext_more 325 (.inr (by decide)) _ w (more24 w)
  | k + 25, h => exact absurd h (by omega)

theorem rtext_any (n : Int) (w : World) : Calls Try.prog 30 #[.int .i64 n] w fun e w' => e = .returned (.string (txt n)) ∧ w' = w := by
  unfold txt
  by_cases h : 301 ≤ n ∧ n ≤ 325
  · rw [if_pos h]
    obtain ⟨k, hk⟩ : ∃ k : Nat, n = 301 + (k : Int) := ⟨(n - 301).toNat, by omega⟩
    subst hk
    have e : (301 + (k : Int) - 301).toNat = k := by omega
    rw [e]
    exact rtext_in k (by omega) w
  · rw [if_neg h]
    exact rtext_more n (by omega) _ w (more_out n (by omega) w)
end Go.Proofs.Ytochdajeocganaa
