/- MatchQuoted: the row. -/
import Derived.Test.YtidfbelckdlbhaaQtd
import Derived.Test.YtidfbelckdlbhaaOpn
namespace Go.Proofs.Ytidfbelckdlbhaa
open Go.ChangeShapes Go.WideShapes Go.ChangeAt Go.RowKit Go.Joins
set_option linter.unusedVariables false
set_option maxRecDepth 100000
theorem quoted_far (aT aU : Option Addr) (n k cT cU : Nat) (N : Int) (w : World) (h : 300 < n ∨ 300 < k) (h1 : n ≤ 9223372036854775807) (h2 : k ≤ 9223372036854775807) :
    Calls Try.prog 6 #[.agg #[.slice aT n cT, .slice aU k cU, .int .i64 N]] w fun e w' => e = .returned (.bool true) ∧ Below w.heap.size w w' := by
  have hb0 : Below w.heap.size w (w.alloc (.cells #[.slice aT n cT, .slice aU k cU, .int .i64 N] 45)) := (Below.refl _ _).alloc (Nat.le_refl _) _
  have W0 : Hid (Calls Try.prog 8 #[] (w.alloc (.cells #[.slice aT n cT, .slice aU k cU, .int .i64 N] 45)) fun e w' => e = .returned (.bool true) ∧ Hid (Below w.heap.size w w') ∧ w'.cell? ⟨w.heap.size, 0, none⟩ = some (.slice aT n cT) ∧ w'.cell? ⟨w.heap.size, 1, none⟩ = some (.slice aU k cU)) := hide ((wakes_any _).mono (fun e w' ⟨h1, h2⟩ => by
    have hb := h2.block w.heap.size (by simp)
    rw [heap_alloc_new] at hb
    exact ⟨h1, hide (chain hb0 h2 (Nat.le_refl _)), by rw [cell_of_row _ _ _ _ _ _ hb]; rfl, by rw [cell_of_row _ _ _ _ _ _ hb]; rfl⟩))
  by_cases hn : 300 < n
  · have d1 : decide ((300 : Int) < (n : Int)) = true := decide_eq_true (by omega)
    clear h
    go_enter Try.func6, Try.ntmps6
    go_wp2_with (go_at_call 8; refine (unhide W0).mono ?_; rintro e w1 ⟨rfl, k1, x1⟩)
    all_goals go_ret
    all_goals exact ⟨rfl, unhide k1⟩
  · have d1 : decide ((300 : Int) < (n : Int)) = false := decide_eq_false (by omega)
    have d2 : decide ((300 : Int) < (k : Int)) = true := decide_eq_true (by omega)
    clear h
    go_enter Try.func6, Try.ntmps6
    go_wp2_with (go_at_call 8; refine (unhide W0).mono ?_; rintro e w1 ⟨rfl, k1, x1⟩)
    all_goals go_ret
    all_goals exact ⟨rfl, unhide k1⟩
end Go.Proofs.Ytidfbelckdlbhaa
namespace Go.Proofs.Ytidfbelckdlbhaa.MatchQuoted
open Go.ChangeShapes Go.WideShapes Go.ChangeAt Go.RowKit Go.Joins
set_option linter.unusedVariables false
set_option maxRecDepth 100000

theorem lifted (os : Os) (started : os.Started) (H : Type) (enc : TypeId × Value → H) :
    ReturnsInHanded {} Try.checked os 6 .any (Rows.matchQuotedSpec.pre6 enc Try.prog Try.f6 Rows.matchQuotedRow.domain false) (Rows.matchQuotedSpec.post enc Try.prog Try.f6 false true false false) := by
  refine returnsInHanded_of_change_sized (C := Try.checked) own started (by kernel_rfl) Try.func6
    (ChangeSpec.witness6 (enc := enc) (C := Try.checked) false ⟨#[], #[.agg #[.slice none 0 0, .slice none 0 0, .int .i64 0]], []⟩ 8 (by kernel_rfl) (by kernel_rfl) (by kernel_rfl) (by kernel_rfl)) ?_
  intro W base args ds gs before hval0 hW hcnd hsz0 _
  have hval : ∀ (j : Nat) t v, Try.f6.params[j]? = some t → args[j]? = some v → Value.okWide Try.prog W .any base t v := hval0
  have hW' := hW
  obtain ⟨p, q, hA0, hV, rfl, hfz, hnd⟩ := hW
  have hA : DataW.TrodAll enc Try.prog W 0 (fun _ => true) true Try.f6.params.toList args.toList ds p := hA0
  rw [Try.params6] at hA hval
  obtain ⟨v0, vs0, d0, ds0, p0, q0, hargs, rfl, rfl, h0, r0⟩ := trodAll_cons hA
  obtain ⟨rfl, rfl, rfl⟩ := trodAll_nil r0
  obtain rfl : args = #[v0] := by cases args; simp_all
  obtain ⟨rfl, rfl⟩ := trodVars_none hV
  have k0 := h0
  have lt0 : ∀ x ∈ p0, x.block < W.heap.size := by obtain ⟨m, hm⟩ := k0; exact DataW.trod_lt m _ _ _ hm
  obtain ⟨c0, c1, c2, y0, y1, y2, m, rfl, hd, -, hy0, hy1, hy2⟩ := open_agg3 Try.underlying45 (by kernel_rfl) (by kernel_rfl) (hval 0 45 v0 rfl rfl) h0
  subst hd
  obtain ⟨aT, cT, T, rfl, bT, -, oT, sT, -⟩ := open_bytes hy0
  obtain ⟨aU, cU, U, rfl, bU, -, oU, sU, -⟩ := open_bytes hy1
  obtain ⟨N, e2, _, w2⟩ := DataW.trod_int Try.underlying3 hy2
  cases e2
  clear hA0 hval0 hsz0
  have main : Calls Try.prog 6 #[.agg #[.slice aT T.length cT, .slice aU U.length cU, .int .i64 N]] W fun e w' => e = .returned (.bool true) ∧ Below W.heap.size W w' := by
    by_cases h : 300 < T.length ∨ 300 < U.length
    · exact quoted_far aT aU _ _ cT cU N W h (Nat.le_trans oT.1 oT.2) (Nat.le_trans oU.1 oU.2)
    · exact quoted_main aT aU _ _ cT cU N T U W rfl rfl (by omega) (by omega) bT bU sT sU oT.1 oU.1 oT.2 oU.2
  refine main.mono fun e W' ⟨he, bel⟩ => ?_
  subst he
  exact ⟨_, rfl, _, _, _, [], _, [], hW', trodAll_mk1 (shut_bool Try.underlying4 _), (trodAll_cons_mk (Below.trod laidOut (by kernel_rfl) (of_decide_eq_true (by kernel_rfl)) k0 bel lt0) trodAll_mk0), rfl, bel.frame _, fun h => by cases h⟩

theorem over : Rows.matchQuotedRow.holds Try.pinned (OpenSpec.ofChange Rows.matchQuotedSpec) :=
  OpenClaim.holds_of_wide 6 Try.f6 rfl rfl rfl rfl rfl rfl rfl ⟨rfl, rfl, rfl, rfl, rfl⟩ rfl rfl rfl rfl rfl (by kernel_rfl) Try.func6 (by kernel_rfl)
    (of_decide_eq_true (by kernel_rfl)) (by unfold Func.isWrapper; first | (rw [if_pos (by decide +kernel)]; kernel_rfl) | (rw [if_neg (by decide +kernel)]; exact ⟨rfl, rfl⟩))
    (fun os started H enc _ => lifted os started H enc)
end Go.Proofs.Ytidfbelckdlbhaa.MatchQuoted
namespace Go.Proofs.Ytidfbelckdlbhaa
theorem matchQuoted_holds : Rows.MatchQuotedSaid := MatchQuoted.over
end Go.Proofs.Ytidfbelckdlbhaa
