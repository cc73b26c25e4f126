/- WaitFair: the row. -/
import Derived.Test.YtfebiemfmiahhaaFo
import Derived.Test.YtfebiemfmiahhaaRows
namespace Go.Proofs.Ytfebiemfmiahhaa.WaitFair
open Go.ChangeShapes Go.WideShapes Go.ChangeAt Go.RowKit Go.Joins
set_option linter.unusedVariables false
set_option maxRecDepth 100000
theorem lifted (os : Os) (started : os.Started) (H : Type) (enc : TypeId × Value → H) :
    ReturnsInHanded {} Try.checked os 4 .any (Rows.waitFairSpec.pre6 enc Try.prog Try.f4 Rows.waitFairRow.domain false) (Rows.waitFairSpec.post enc Try.prog Try.f4 false true false false) := by
  refine returnsInHanded_of_change_sized (C := Try.checked) own started (by kernel_rfl) Try.func4
    (ChangeSpec.witness6 (enc := enc) (C := Try.checked) false ⟨#[], #[.agg #[.slice none 0 0]], []⟩ 8 (by kernel_rfl) (by kernel_rfl) (by kernel_rfl) (by kernel_rfl)) ?_
  intro W base args ds gs before hval0 hW hcnd hsz0 _
  have hsz : (DataW.weightsEach Try.prog (Try.f4.params.toList ++ Rows.waitFairSpec.plain.varTypes Try.prog) (ds ++ gs)).all (· ≤ reachBytes) = true := hsz0
  have hval : ∀ (j : Nat) t v, Try.f4.params[j]? = some t → args[j]? = some v → Value.okWide Try.prog W .any base t v := hval0
  have hW' := hW
  obtain ⟨p, q, hA0, hV, rfl, hfz, hnd⟩ := hW
  have hA : DataW.TrodAll enc Try.prog W 0 (fun _ => true) true Try.f4.params.toList args.toList ds p := hA0
  rw [Try.params4] at hA hval hsz
  obtain ⟨v0, vs0, d0, ds0, p0, q0, hargs, rfl, rfl, h0, r0⟩ := trodAll_cons hA
  obtain ⟨rfl, rfl, rfl⟩ := trodAll_nil r0
  obtain rfl : args = #[v0] := by cases args; simp_all
  obtain ⟨rfl, rfl⟩ := trodVars_none hV
  have k0 := h0
  have lt0 : ∀ x ∈ p0, x.block < W.heap.size := by obtain ⟨m, hm⟩ := k0; exact DataW.trod_lt m _ _ _ hm
  obtain ⟨cs, rfl, hcs⟩ := okWide_struct Try.underlying47 (hval 0 47 v0 rfl rfl)
  obtain ⟨fuel, hf0⟩ := h0
  obtain ⟨u1, y1, n, hcl, hd, t1⟩ := open_one Try.underlying47 (by kernel_rfl) rfl (by kernel_rfl) hf0
  have hcs2 : cs = #[u1] := by
    have : cs.toList = [u1] := by simpa [Value.cells] using hcl
    cases cs; simp_all
  subst hcs2
  have hw : ∀ m ∈ DataW.weights Try.prog 45 y1.1, m ≤ 140737488351232 := fun k hk => by
    refine held_sized (t := 47) (ts := _) (d := d0) (ds := _) hsz ?_
    dsimp only at hd
    rw [hd]
    simp only [DataW.weights, Try.underlying47]
    exact DataW.weights_mem_each (j := 0) (t := 45) (d := y1.1) rfl rfl _ hk
  obtain ⟨oa, ocap, l, rfl, hl, hn⟩ := open_turns t1 hw
  clear hA0 hval0 hsz0
  have hlaw := fair_law W oa ocap l.length l rfl hn hl
  refine hlaw.mono fun e W' ⟨he, bel0⟩ => ?_
  have bel := unhide bel0
  subst he
  exact ⟨_, rfl, _, _, _, [], _, [], hW', trodAll_mk1 (shut_bool Try.underlying4 _), (trodAll_cons_mk (Below.trod laidOut (by kernel_rfl) (of_decide_eq_true (by kernel_rfl)) k0 bel lt0) trodAll_mk0), rfl, bel.frame _, fun h => by cases h⟩

theorem over : Rows.waitFairRow.holds Try.pinned (OpenSpec.ofChange Rows.waitFairSpec) :=
  OpenClaim.holds_of_wide 4 Try.f4 rfl rfl rfl rfl rfl rfl rfl ⟨rfl, rfl, rfl, rfl, rfl⟩ rfl rfl rfl rfl rfl (by kernel_rfl) Try.func4 (by kernel_rfl)
    (of_decide_eq_true (by kernel_rfl)) (by unfold Func.isWrapper; first | (rw [if_pos (by decide +kernel)]; kernel_rfl) | (rw [if_neg (by decide +kernel)]; exact ⟨rfl, rfl⟩))
    (fun os started H enc _ => lifted os started H enc)
end Go.Proofs.Ytfebiemfmiahhaa.WaitFair
namespace Go.Proofs.Ytfebiemfmiahhaa
theorem waitFair_holds : Rows.WaitFairSaid := WaitFair.over
end Go.Proofs.Ytfebiemfmiahhaa
