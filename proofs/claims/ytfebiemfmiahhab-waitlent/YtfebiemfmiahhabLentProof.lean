/- WaitLent: the row. -/
import Derived.Test.YtfebiemfmiahhabRz
import Derived.Test.YtfebiemfmiahhabOpen
import Derived.Test.YtfebiemfmiahhabRows
namespace Go.Proofs.Ytfebiemfmiahhab.WaitLent
open Go.ChangeShapes Go.WideShapes Go.ChangeAt Go.RowKit Go.Joins
set_option linter.unusedVariables false
set_option maxRecDepth 100000
theorem lifted (os : Os) (started : os.Started) (H : Type) (enc : TypeId × Value → H) :
    ReturnsInHanded {} Try.checked os 4 .any (Rows.waitLentSpec.pre6 enc Try.prog Try.f4 Rows.waitLentRow.domain false) (Rows.waitLentSpec.post enc Try.prog Try.f4 false true false false) := by
  refine returnsInHanded_of_change_sized (C := Try.checked) own started (by kernel_rfl) Try.func4
    (ChangeSpec.witness6 (enc := enc) (C := Try.checked) false ⟨#[], #[.agg #[.int .i64 0, .slice none 0 0]], []⟩ 8 (by kernel_rfl) (by kernel_rfl) (by kernel_rfl) (by kernel_rfl)) ?_
  intro W base args ds gs before hval0 hW hcnd hsz0 _
  have hsz : (DataW.weightsEach Try.prog (Try.f4.params.toList ++ Rows.waitLentSpec.plain.varTypes Try.prog) (ds ++ gs)).all (· ≤ reachBytes) = true := hsz0
  have hval : ∀ (j : Nat) t v, Try.f4.params[j]? = some t → args[j]? = some v → Value.okWide Try.prog W .any base t v := hval0
  have hW' := hW
  obtain ⟨p, q, hA0, hV, rfl, hfz, hnd⟩ := hW
  have hA : DataW.TrodAll enc Try.prog W 0 (fun _ => true) true Try.f4.params.toList args.toList ds p := hA0
  rw [Try.params4] at hA hval hsz
  obtain ⟨v0, vs0, d0, ds0, p0, q0, hargs, rfl, rfl, h0, r0⟩ := trodAll_cons hA
  obtain ⟨rfl, rfl, rfl⟩ := trodAll_nil r0
  obtain rfl : args = #[v0] := by cases args; simp_all
  obtain ⟨rfl, rfl⟩ := trodVars_none hV
  have k0 := h0
  have lt0 : ∀ x ∈ p0, x.block < W.heap.size := by obtain ⟨m, hm⟩ := k0; exact DataW.trod_lt m _ _ _ hm
  obtain ⟨cs, rfl, hcs⟩ := okWide_struct Try.underlying24 (hval 0 24 v0 rfl rfl)
  obtain ⟨fuel, hf0⟩ := h0
  obtain ⟨u0, u1, y0, y1, n, hcl, hd, t0, t1⟩ := open_two Try.underlying24 (by kernel_rfl) rfl (by kernel_rfl) rfl (by kernel_rfl) hf0
  have hcs2 : cs = #[u0, u1] := by
    have : cs.toList = [u0, u1] := by simpa [Value.cells] using hcl
    cases cs; simp_all
  subst hcs2
  obtain ⟨M, e0, _, w0⟩ := DataW.trod_int Try.underlying3 t0
  cases e0
  have hw : ∀ m ∈ DataW.weights Try.prog 22 y1.1, m ≤ 140737488351232 := fun k hk => by
    refine held_sized (t := 24) (ts := _) (d := d0) (ds := _) hsz ?_
    dsimp only at hd
    rw [hd]
    simp only [DataW.weights, Try.underlying24]
    exact DataW.weights_mem_each (j := 1) (t := 22) (d := y1.1) rfl rfl _ hk
  obtain ⟨oa, ocap, l, rfl, hl, hn⟩ := open_ops t1 hw
  clear hA0 hval0 hsz0
  have hlaw := lent_law W M oa ocap l.length l rfl hn hl
  refine hlaw.mono fun e W' ⟨he, bel0⟩ => ?_
  have bel := unhide bel0
  subst he
  exact ⟨_, rfl, _, _, _, [], _, [], hW', trodAll_mk1 (shut_bool Try.underlying4 _), (trodAll_cons_mk (Below.trod laidOut (by kernel_rfl) (of_decide_eq_true (by kernel_rfl)) k0 bel lt0) trodAll_mk0), rfl, bel.frame _, fun h => by cases h⟩

theorem over : Rows.waitLentRow.holds Try.pinned (OpenSpec.ofChange Rows.waitLentSpec) :=
  OpenClaim.holds_of_wide 4 Try.f4 rfl rfl rfl rfl rfl rfl rfl ⟨rfl, rfl, rfl, rfl, rfl⟩ rfl rfl rfl rfl rfl (by kernel_rfl) Try.func4 (by kernel_rfl)
    (of_decide_eq_true (by kernel_rfl)) (by unfold Func.isWrapper; first | (rw [if_pos (by decide +kernel)]; kernel_rfl) | (rw [if_neg (by decide +kernel)]; exact ⟨rfl, rfl⟩))
    (fun os started H enc _ => lifted os started H enc)
end Go.Proofs.Ytfebiemfmiahhab.WaitLent
namespace Go.Proofs.Ytfebiemfmiahhab
theorem waitLent_holds : Rows.WaitLentSaid := WaitLent.over
end Go.Proofs.Ytfebiemfmiahhab
