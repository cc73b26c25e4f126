/- ApiTexts: the law and the row. -/
import Derived.Test.YtochdajeocganaaApiLaw
import Derived.Test.YtochdajeocganaaOpen
namespace Go.Proofs.Ytochdajeocganaa.ApiTexts
open Go.ChangeShapes Go.WideShapes Go.ChangeAt Go.RowKit
set_option linter.unusedVariables false
set_option maxRecDepth 100000

theorem law (w : World) : Calls Try.prog 3 #[] w fun e w' => e = .returned (.bool true) ∧ Below w.heap.size w w' := by
  have HT : Hid (∀ (n : Int) (w' : World), -9223372036854775808 ≤ n → n ≤ 9223372036854775807 → Calls Try.prog 8 #[.int .i64 n] w' fun e w'' => e = .returned (.bool true) ∧ Below w'.heap.size w' w'') := hide (fun n w' h1 h2 => text_law n h1 h2 w')
  have HO : Hid (∀ w', Calls Try.prog 9 #[.int .i64 312] w' fun e w'' => e = .returned (.string ⟨#[79, 79, 77]⟩) ∧ Below w'.heap.size w' w'') := hide (fun w' => text_any 312 (by decide) (by decide) w')
  go_enter Try.func3, Try.ntmps3
  go_wp2_with fail
  go_loopw [1] (fun i wr => ∃ k : Nat, k ≤ 1006 ∧ i = .int .i64 ((k : Int) - 5) ∧ Below w.heap.size w wr) (fun i _ => (1001 - intOf i).toNat)
  case atStart => exact ⟨0, by omega, rfl, Below.refl _ _⟩
  case round =>
    obtain ⟨k, hk, rfl, hb⟩ := hrel
    by_cases hlt : k < 1006
    · have e1 : decide ((k : Int) - 5 ≤ 1000) = true := decide_eq_true (by omega)
      have e2 : wrap64 ((k : Int) - 5 + 1) = ((k + 1 : Nat) : Int) - 5 := by unfold wrap64; omega
      go_wp2_with fail
      refine (unhide HT ((k : Int) - 5) wr (by omega) (by omega)).mono ?_
      rintro e w1 ⟨rfl, hb1⟩
      go_wp2
      go_roundw
      case rel => exact ⟨k + 1, by omega, by first | rfl | (congr 1; unfold wrap64; omega) | (simp; omega), hb.trans (hb1.mono hb.size)⟩
      case measure => simp [intOf]; omega
    · have hk2 : k = 1006 := by omega
      subst hk2
      go_wp2_with fail
      refine (unhide HO wr).mono ?_
      rintro e w1 ⟨rfl, hb1⟩
      have k1 := hide (hb.trans (hb1.mono hb.size))
      clear hb hb1
      go_wp2_with fail
      refine (unhide HT _ w1 (by decide) (by decide)).mono ?_
      rintro e w2 ⟨rfl, hb2⟩
      have k2 := hide ((unhide k1).trans (hb2.mono (unhide k1).size))
      clear hb2
      go_wp2_with fail
      refine (unhide HT _ w2 (by decide) (by decide)).mono ?_
      rintro e w3 ⟨rfl, hb3⟩
      have k3 := hide ((unhide k2).trans (hb3.mono (unhide k2).size))
      clear hb3
      go_wp2
      go_ret
      exact ⟨rfl, unhide k3⟩

theorem lifted (os : Os) (started : os.Started) (H : Type) (enc : TypeId × Value → H) :
    ReturnsInHanded {} Try.checked os 3 .any (Rows.apiTextsSpec.pre6 enc Try.prog Try.f3 Rows.apiTextsRow.domain false) (Rows.apiTextsSpec.post enc Try.prog Try.f3 false true false false) := by
  refine returnsInHanded_of_change_sized (C := Try.checked) own started (by kernel_rfl) Try.func3
    (ChangeSpec.witness6 (enc := enc) (C := Try.checked) false ⟨#[], #[], []⟩ 8 (by kernel_rfl) (by kernel_rfl) (by kernel_rfl) (by kernel_rfl)) ?_
  intro W base args ds gs before hval0 hW hcnd hsz0 _
  have hW' := hW
  obtain ⟨p, q, hA0, hV, rfl, hfz, hnd⟩ := hW
  have hA : DataW.TrodAll enc Try.prog W 0 (fun _ => true) true Try.f3.params.toList args.toList ds p := hA0
  rw [Try.params3] at hA
  obtain ⟨hargs, rfl, rfl⟩ := trodAll_nil hA
  obtain rfl : args = #[] := by cases args; simp_all
  obtain ⟨rfl, rfl⟩ := trodVars_none hV
  clear hA0 hval0 hsz0
  refine (law W).mono fun e W' ⟨he, bel⟩ => ?_
  subst he
  exact ⟨_, rfl, _, _, _, [], _, [], hW', trodAll_mk1 (shut_bool Try.underlying4 _), trodAll_mk0, rfl, bel.frame _, fun h => by cases h⟩

theorem over : Rows.apiTextsRow.holds Try.pinned (OpenSpec.ofChange Rows.apiTextsSpec) :=
  OpenClaim.holds_of_wide 3 Try.f3 rfl rfl rfl rfl rfl rfl rfl ⟨rfl, rfl, rfl, rfl, rfl⟩ rfl rfl rfl rfl rfl (by kernel_rfl) Try.func3 (by kernel_rfl)
    (of_decide_eq_true (by kernel_rfl)) (by unfold Func.isWrapper; first | (rw [if_pos (by decide +kernel)]; kernel_rfl) | (rw [if_neg (by decide +kernel)]; exact ⟨rfl, rfl⟩))
    (fun os started H enc _ => lifted os started H enc)
end Go.Proofs.Ytochdajeocganaa.ApiTexts
namespace Go.Proofs.Ytochdajeocganaa
theorem apiTexts_holds : Rows.ApiTextsSaid := ApiTexts.over
end Go.Proofs.Ytochdajeocganaa
