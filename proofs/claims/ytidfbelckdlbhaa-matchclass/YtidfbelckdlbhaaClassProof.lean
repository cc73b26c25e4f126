/- MatchClass: the row. -/
import Derived.Test.YtidfbelckdlbhaaOpp
namespace Go.Proofs.Ytidfbelckdlbhaa.MatchClass
open Go.ChangeShapes Go.WideShapes Go.ChangeAt Go.RowKit Go.Joins
set_option linter.unusedVariables false
set_option maxRecDepth 100000

theorem lifted (os : Os) (started : os.Started) (H : Type) (enc : TypeId × Value → H) :
    ReturnsInHanded {} Try.checked os 4 .any (Rows.matchClassSpec.pre6 enc Try.prog Try.f4 Rows.matchClassRow.domain false) (Rows.matchClassSpec.post enc Try.prog Try.f4 false true false false) := by
  refine returnsInHanded_of_change_sized (C := Try.checked) own started (by kernel_rfl) Try.func4
    (ChangeSpec.witness6 (enc := enc) (C := Try.checked) false ⟨#[], #[.agg #[.slice none 0 0, .slice none 0 0, .slice none 0 0]], []⟩ 8 (by kernel_rfl) (by kernel_rfl) (by kernel_rfl) (by kernel_rfl)) ?_
  intro W base args ds gs before hval0 hW hcnd hsz0 _
  have hval : ∀ (j : Nat) t v, Try.f4.params[j]? = some t → args[j]? = some v → Value.okWide Try.prog W .any base t v := hval0
  have hsz1 : (DataW.weightsEach Try.prog (Try.f4.params.toList ++ Rows.matchClassSpec.plain.varTypes Try.prog) (ds ++ gs)).all (· ≤ reachBytes) = true := hsz0
  have hW' := hW
  obtain ⟨p, q, hA0, hV, rfl, hfz, hnd⟩ := hW
  have hA : DataW.TrodAll enc Try.prog W 0 (fun _ => true) true Try.f4.params.toList args.toList ds p := hA0
  rw [Try.params4] at hA hval hsz1
  obtain ⟨v0, vs0, d0, ds0, p0, q0, hargs, rfl, rfl, h0, r0⟩ := trodAll_cons hA
  obtain ⟨rfl, rfl, rfl⟩ := trodAll_nil r0
  obtain rfl : args = #[v0] := by cases args; simp_all
  obtain ⟨rfl, rfl⟩ := trodVars_none hV
  have k0 := h0
  have lt0 : ∀ x ∈ p0, x.block < W.heap.size := by obtain ⟨m, hm⟩ := k0; exact DataW.trod_lt m _ _ _ hm
  obtain ⟨c0, c1, c2, y0, y1, y2, m, rfl, hd, -, hy0, hy1, hy2⟩ := open_agg3 Try.underlying35 (by kernel_rfl) (by kernel_rfl) (hval 0 35 v0 rfl rfl) h0
  subst hd
  have hsz : ∀ m, m ∈ DataW.weights Try.prog 35 (.agg [y0.1, y1.1, y2.1]) → m ≤ 140737488351232 := fun m hm => held_sizedP hsz1 hm
  obtain ⟨aP, xs, cP, rfl, lP, hP⟩ := open_pieces hy0 (fun m hm => hsz m (by
    simp only [DataW.weights, Try.underlying35]
    exact DataW.weights_mem_each (j := 0) (t := 33) (d := y0.1) rfl rfl _ hm))
  obtain ⟨aQ, zs, cQ, rfl, lQ, hQ⟩ := open_pieces hy1 (fun m hm => hsz m (by
    simp only [DataW.weights, Try.underlying35]
    exact DataW.weights_mem_each (j := 1) (t := 33) (d := y1.1) rfl rfl _ hm))
  obtain ⟨aT, cT, T, rfl, bT, -, oT, sT, -⟩ := open_bytes hy2
  clear hA0 hval0 hsz0
  have main : Calls Try.prog 4 #[.agg #[.slice aP xs.length cP, .slice aQ zs.length cQ, .slice aT T.length cT]] W fun e w' => e = .returned (.bool true) ∧ Below W.heap.size W w' :=
    class_any aP aQ aT cP zs.length cQ T.length cT xs W lP hP
  refine main.mono fun e W' ⟨he, bel⟩ => ?_
  subst he
  exact ⟨_, rfl, _, _, _, [], _, [], hW', trodAll_mk1 (shut_bool Try.underlying4 _), (trodAll_cons_mk (Below.trod laidOut (by kernel_rfl) (of_decide_eq_true (by kernel_rfl)) k0 bel lt0) trodAll_mk0), rfl, bel.frame _, fun h => by cases h⟩

theorem over : Rows.matchClassRow.holds Try.pinned (OpenSpec.ofChange Rows.matchClassSpec) :=
  OpenClaim.holds_of_wide 4 Try.f4 rfl rfl rfl rfl rfl rfl rfl ⟨rfl, rfl, rfl, rfl, rfl⟩ rfl rfl rfl rfl rfl (by kernel_rfl) Try.func4 (by kernel_rfl)
    (of_decide_eq_true (by kernel_rfl)) (by unfold Func.isWrapper; first | (rw [if_pos (by decide +kernel)]; kernel_rfl) | (rw [if_neg (by decide +kernel)]; exact ⟨rfl, rfl⟩))
    (fun os started H enc _ => lifted os started H enc)
end Go.Proofs.Ytidfbelckdlbhaa.MatchClass
namespace Go.Proofs.Ytidfbelckdlbhaa
theorem matchClass_holds : Rows.MatchClassSaid := MatchClass.over
end Go.Proofs.Ytidfbelckdlbhaa
