/- WordTurns: the row. -/
import Derived.Test.YtochdajeocganaaTurnsLaw
namespace Go.Proofs.Ytochdajeocganaa.WordTurns
open Go.ChangeShapes Go.WideShapes Go.ChangeAt Go.RowKit Go.Joins
set_option linter.unusedVariables false

set_option maxRecDepth 100000 in
theorem lifted (os : Os) (started : os.Started) (H : Type) (enc : TypeId × Value → H) :
    ReturnsInHanded {} Try.checked os 5 .any (Rows.wordTurnsSpec.pre6 enc Try.prog Try.f5 Rows.wordTurnsRow.domain false) (Rows.wordTurnsSpec.post enc Try.prog Try.f5 false true false false) := by
  refine returnsInHanded_of_change_sized (C := Try.checked) own started (by kernel_rfl) Try.func5
    (ChangeSpec.witness6 (enc := enc) (C := Try.checked) false ⟨#[], #[.agg #[.int .i64 0, .int .i64 0, .int .i64 0, .int .u64 0, .slice none 0 0, .int .i64 0]], []⟩ 8 (by kernel_rfl) (by kernel_rfl) (by kernel_rfl) (by kernel_rfl)) ?_
  intro W base args ds gs before hval0 hW hcnd hsz0 _
  have hval : ∀ (j : Nat) t v, Try.f5.params[j]? = some t → args[j]? = some v → Value.okWide Try.prog W .any base t v := hval0
  have hsz : (DataW.weightsEach Try.prog (Try.f5.params.toList ++ Rows.wordTurnsSpec.plain.varTypes Try.prog) (ds ++ gs)).all (· ≤ reachBytes) = true := hsz0
  have hW' := hW
  obtain ⟨p, q, hA0, hV, rfl, hfz, hnd⟩ := hW
  have hA : DataW.TrodAll enc Try.prog W 0 (fun _ => true) true Try.f5.params.toList args.toList ds p := hA0
  rw [Try.params5] at hA hval hsz
  obtain ⟨v0, vs0, d0, ds0, p0, q0, hargs, rfl, rfl, h0, r0⟩ := trodAll_cons hA
  obtain ⟨rfl, rfl, rfl⟩ := trodAll_nil r0
  obtain rfl : args = #[v0] := by cases args; simp_all
  obtain ⟨rfl, rfl⟩ := trodVars_none hV
  have k0 := h0
  have lt0 : ∀ x ∈ p0, x.block < W.heap.size := by obtain ⟨m, hm⟩ := k0; exact DataW.trod_lt m _ _ _ hm
  obtain ⟨c0, c1, c2, c3, c4, c5, y0, y1, y2, y3, y4, y5, m, rfl, hd, hy0, hy1, hy2, hy3, hy4, hy5⟩ := open_agg6 Try.underlying36 (by kernel_rfl) (by kernel_rfl) (hval 0 36 v0 rfl rfl) h0
  subst hd
  obtain ⟨a, cap, l, rfl, hB, hnil, hs, hlen⟩ := open_bytes hy4
  obtain ⟨k, e0, _, hw0⟩ := DataW.trod_int Try.underlying3 hy0
  obtain ⟨r, e1, _, hw1⟩ := DataW.trod_int Try.underlying3 hy1
  obtain ⟨s, e2, _, hw2⟩ := DataW.trod_int Try.underlying3 hy2
  obtain ⟨x, e3, _, hw3⟩ := DataW.trod_int Try.underlying27 hy3
  obtain ⟨n, e5, _, hw5⟩ := DataW.trod_int Try.underlying3 hy5
  cases e0
  cases e1
  cases e2
  cases e3
  cases e5
  have hl : l.length ≤ 140737488351232 := by
    rcases hlen with rfl | ⟨el, sp, he, hn⟩
    · simp
    · rw [← hn]; exact field_sized (j := 4) (spare := sp) hsz Try.underlying36 rfl (by rw [he]; rfl)
  clear hA0 hval0 hsz0
  obtain ⟨a3, b3⟩ := bounds_u64 hw3
  obtain ⟨a5, b5⟩ := bounds_i64 hw5
  obtain ⟨x, rfl⟩ := Int.eq_ofNat_of_zero_le a3
  refine (law a cap W l k r s x n (by omega) a5 b5 hl hB hs).mono fun e W' ⟨he, bel⟩ => ?_
  subst he
  exact ⟨_, rfl, _, _, _, [], _, [], hW', trodAll_mk1 (shut_bool Try.underlying4 _), (trodAll_cons_mk (Below.trod laidOut (by kernel_rfl) (of_decide_eq_true (by kernel_rfl)) k0 bel lt0) trodAll_mk0), rfl, bel.frame _, fun h => by cases h⟩

theorem over : Rows.wordTurnsRow.holds Try.pinned (OpenSpec.ofChange Rows.wordTurnsSpec) :=
  OpenClaim.holds_of_wide 5 Try.f5 rfl rfl rfl rfl rfl rfl rfl ⟨rfl, rfl, rfl, rfl, rfl⟩ rfl rfl rfl rfl rfl (by kernel_rfl) Try.func5 (by kernel_rfl)
    (of_decide_eq_true (by kernel_rfl)) (by unfold Func.isWrapper; first | (rw [if_pos (by decide +kernel)]; kernel_rfl) | (rw [if_neg (by decide +kernel)]; exact ⟨rfl, rfl⟩))
    (fun os started H enc _ => lifted os started H enc)
end Go.Proofs.Ytochdajeocganaa.WordTurns
namespace Go.Proofs.Ytochdajeocganaa
theorem wordTurns_holds : Rows.WordTurnsSaid := WordTurns.over
end Go.Proofs.Ytochdajeocganaa
