/- WordBurst: the row. -/
import Derived.Test.YtochdajeocganaaBurst
import Derived.Test.YtochdajeocganaaOpen
namespace Go.Proofs.Ytochdajeocganaa.WordBurst
open Go.ChangeShapes Go.WideShapes Go.ChangeAt Go.RowKit Go.Joins
open Go.ChangeMaps (open_string shut_string)
set_option linter.unusedVariables false

theorem law (a : Option Addr) (cap : Nat) (W : World) (l : List Nat) (at' : Int) (x : Int) (hat : (Lit.int .i64 at').wf = true) (hx : (Lit.int .u64 x).wf = true) (hl : l.length ≤ 140737488351232) (hB : Bytes W a l) (hnil : a = none → cap = 0) (hs : Small l) :
    Calls Try.prog 4 #[.agg #[.slice a l.length cap, .int .i64 at', .int .u64 x]] W fun e w' => e = .returned (.bool true) ∧ Below W.heap.size W w' := by
  obtain ⟨hx0, hx1⟩ := bounds_u64 hx
  obtain ⟨x, rfl⟩ := Int.eq_ofNat_of_zero_le hx0
  by_cases h : 0 ≤ at' ∧ at' ≤ 8 * (l.length : Int) + 64
  · obtain ⟨n, rfl⟩ := Int.eq_ofNat_of_zero_le h.1
    exact burst_in a cap W l n x (by omega) (by omega) hl hB hnil hs
  · exact burst_out a l.length cap W at' x hl (by omega)

set_option maxRecDepth 100000 in
theorem lifted (os : Os) (started : os.Started) (H : Type) (enc : TypeId × Value → H) :
    ReturnsInHanded {} Try.checked os 4 .any (Rows.wordBurstSpec.pre6 enc Try.prog Try.f4 Rows.wordBurstRow.domain false) (Rows.wordBurstSpec.post enc Try.prog Try.f4 false true false false) := by
  refine returnsInHanded_of_change_sized (C := Try.checked) own started (by kernel_rfl) Try.func4
    (ChangeSpec.witness6 (enc := enc) (C := Try.checked) false ⟨#[], #[.agg #[.slice none 0 0, .int .i64 0, .int .u64 0]], []⟩ 8 (by kernel_rfl) (by kernel_rfl) (by kernel_rfl) (by kernel_rfl)) ?_
  intro W base args ds gs before hval0 hW hcnd hsz0 _
  have hval : ∀ (j : Nat) t v, Try.f4.params[j]? = some t → args[j]? = some v → Value.okWide Try.prog W .any base t v := hval0
  have hsz : (DataW.weightsEach Try.prog (Try.f4.params.toList ++ Rows.wordBurstSpec.plain.varTypes Try.prog) (ds ++ gs)).all (· ≤ reachBytes) = true := hsz0
  have hW' := hW
  obtain ⟨p, q, hA0, hV, rfl, hfz, hnd⟩ := hW
  have hA : DataW.TrodAll enc Try.prog W 0 (fun _ => true) true Try.f4.params.toList args.toList ds p := hA0
  rw [Try.params4] at hA hval hsz
  obtain ⟨v0, vs0, d0, ds0, p0, q0, hargs, rfl, rfl, h0, r0⟩ := trodAll_cons hA
  obtain ⟨rfl, rfl, rfl⟩ := trodAll_nil r0
  obtain rfl : args = #[v0] := by cases args; simp_all
  obtain ⟨rfl, rfl⟩ := trodVars_none hV
  have k0 := h0
  have lt0 : ∀ x ∈ p0, x.block < W.heap.size := by obtain ⟨m, hm⟩ := k0; exact DataW.trod_lt m _ _ _ hm
  obtain ⟨c0, c1, c2, y0, y1, y2, m, rfl, rfl, rfl, hy0, hy1, hy2⟩ := open_agg3 Try.underlying29 (by kernel_rfl) (by kernel_rfl) (hval 0 29 v0 rfl rfl) h0
  obtain ⟨a, cap, l, rfl, hB, hnil, hs, hlen⟩ := open_bytes hy0
  obtain ⟨at', e1, _, hat⟩ := DataW.trod_int Try.underlying3 hy1
  obtain ⟨x, e2, _, hx⟩ := DataW.trod_int Try.underlying27 hy2
  cases e1
  cases e2
  have hl : l.length ≤ 140737488351232 := by
    rcases hlen with rfl | ⟨el, sp, he, hn⟩
    · simp
    · rw [← hn]; exact field_sized (j := 0) (spare := sp) hsz Try.underlying29 rfl (by rw [he]; rfl)
  clear hA0 hval0 hsz0
  refine (law a cap W l at' x hat hx hl hB hnil hs).mono fun e W' ⟨he, bel⟩ => ?_
  subst he
  exact ⟨_, rfl, _, _, _, [], _, [], hW', trodAll_mk1 (shut_bool Try.underlying4 _), (trodAll_cons_mk (Below.trod laidOut (by kernel_rfl) (of_decide_eq_true (by kernel_rfl)) k0 bel lt0) trodAll_mk0), rfl, bel.frame _, fun h => by cases h⟩

theorem over : Rows.wordBurstRow.holds Try.pinned (OpenSpec.ofChange Rows.wordBurstSpec) :=
  OpenClaim.holds_of_wide 4 Try.f4 rfl rfl rfl rfl rfl rfl rfl ⟨rfl, rfl, rfl, rfl, rfl⟩ rfl rfl rfl rfl rfl (by kernel_rfl) Try.func4 (by kernel_rfl)
    (of_decide_eq_true (by kernel_rfl)) (by unfold Func.isWrapper; first | (rw [if_pos (by decide +kernel)]; kernel_rfl) | (rw [if_neg (by decide +kernel)]; exact ⟨rfl, rfl⟩))
    (fun os started H enc _ => lifted os started H enc)
end Go.Proofs.Ytochdajeocganaa.WordBurst
namespace Go.Proofs.Ytochdajeocganaa
theorem wordBurst_holds : Rows.WordBurstSaid := WordBurst.over
end Go.Proofs.Ytochdajeocganaa
