/- RecordBurst: the row. -/
import Derived.Test.YtljeedgnjgeopaaZn
import Derived.Test.YtljeedgnjgeopaaZk
import Derived.Test.YtljeedgnjgeopaaRows
namespace Go.Proofs.Ytljeedgnjgeopaa.RecordBurst
open Go.ChangeShapes Go.WideShapes Go.ChangeAt Go.RowKit Go.Joins
set_option linter.unusedVariables false
set_option maxRecDepth 100000
theorem lifted (os : Os) (started : os.Started) (H : Type) (enc : TypeId × Value → H) :
    ReturnsInHanded {} Try.checked os 4 .any (Rows.recordBurstSpec.pre6 enc Try.prog Try.f4 Rows.recordBurstRow.domain false) (Rows.recordBurstSpec.post enc Try.prog Try.f4 false true false false) := by
  refine returnsInHanded_of_change_sized (C := Try.checked) own started (by kernel_rfl) Try.func4
    (ChangeSpec.witness6 (enc := enc) (C := Try.checked) false ⟨#[], #[.agg #[.int .i64 0, .int .u64 0, .slice none 0 0, .int .i64 0, .int .i64 0, .int .i64 0, .int .u64 0]], []⟩ 8 (by kernel_rfl) (by kernel_rfl) (by kernel_rfl) (by kernel_rfl)) ?_
  intro W base args ds gs before hval0 hW hcnd hsz0 _
  have hsz : (DataW.weightsEach Try.prog (Try.f4.params.toList ++ Rows.recordBurstSpec.plain.varTypes Try.prog) (ds ++ gs)).all (· ≤ reachBytes) = true := hsz0
  have hval : ∀ (j : Nat) t v, Try.f4.params[j]? = some t → args[j]? = some v → Value.okWide Try.prog W .any base t v := hval0
  have hW' := hW
  obtain ⟨p, q, hA0, hV, rfl, hfz, hnd⟩ := hW
  have hA : DataW.TrodAll enc Try.prog W 0 (fun _ => true) true Try.f4.params.toList args.toList ds p := hA0
  rw [Try.params4] at hA hval hsz
  obtain ⟨v0, vs0, d0, ds0, p0, q0, hargs, rfl, rfl, h0, r0⟩ := trodAll_cons hA
  obtain ⟨rfl, rfl, rfl⟩ := trodAll_nil r0
  obtain rfl : args = #[v0] := by cases args; simp_all
  obtain ⟨rfl, rfl⟩ := trodVars_none hV
  have k0 := h0
  have lt0 : ∀ x ∈ p0, x.block < W.heap.size := by obtain ⟨m, hm⟩ := k0; exact DataW.trod_lt m _ _ _ hm
  obtain ⟨cs, rfl, hcs⟩ := okWide_struct Try.underlying25 (hval 0 25 v0 rfl rfl)
  obtain ⟨fuel, hf0⟩ := h0
  obtain ⟨fi, st, gra, grc, sy, zs, at_, x, gs, hcl, hst, hx, hg, hs, hgl⟩ := open_cut hf0 (fun k hk => held_sized (t := 25) (ts := _) (d := d0) (ds := _) hsz hk)
  have hcs2 : cs = #[.int .i64 fi, .int .u64 (st : Nat), .slice gra gs.length grc, .int .i64 sy, .int .i64 zs, .int .i64 at_, .int .u64 (x : Nat)] := by
    have : cs.toList = [.int .i64 fi, .int .u64 (st : Nat), .slice gra gs.length grc, .int .i64 sy, .int .i64 zs, .int .i64 at_, .int .u64 (x : Nat)] := by simpa [Value.cells] using hcl
    cases cs; simp_all
  subst hcs2
  clear hA0 hval0 hsz0
  have hlaw := burst_law W fi st gra gs.length grc sy zs at_ x gs hst hx rfl hg hs hgl
  refine hlaw.mono fun e W' ⟨he, bel0⟩ => ?_
  have bel := unhide bel0
  subst he
  exact ⟨_, rfl, _, _, _, [], _, [], hW', trodAll_mk1 (shut_bool Try.underlying4 _), (trodAll_cons_mk (Below.trod laidOut (by kernel_rfl) (of_decide_eq_true (by kernel_rfl)) k0 bel lt0) trodAll_mk0), rfl, bel.frame _, fun h => by cases h⟩

theorem over : Rows.recordBurstRow.holds Try.pinned (OpenSpec.ofChange Rows.recordBurstSpec) :=
  OpenClaim.holds_of_wide 4 Try.f4 rfl rfl rfl rfl rfl rfl rfl ⟨rfl, rfl, rfl, rfl, rfl⟩ rfl rfl rfl rfl rfl (by kernel_rfl) Try.func4 (by kernel_rfl)
    (of_decide_eq_true (by kernel_rfl)) (by unfold Func.isWrapper; first | (rw [if_pos (by decide +kernel)]; kernel_rfl) | (rw [if_neg (by decide +kernel)]; exact ⟨rfl, rfl⟩))
    (fun os started H enc _ => lifted os started H enc)
end Go.Proofs.Ytljeedgnjgeopaa.RecordBurst
namespace Go.Proofs.Ytljeedgnjgeopaa
theorem recordBurst_holds : Rows.RecordBurstSaid := RecordBurst.over
end Go.Proofs.Ytljeedgnjgeopaa
