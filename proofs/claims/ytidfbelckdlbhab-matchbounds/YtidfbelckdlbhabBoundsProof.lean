/- MatchBounds: the row. -/
import Derived.Test.YtidfbelckdlbhabAnB
import Derived.Test.YtidfbelckdlbhabOpA
namespace Go.Proofs.Ytidfbelckdlbhab.MatchBounds
open Go.ChangeShapes Go.WideShapes Go.ChangeAt Go.RowKit Go.Joins
set_option linter.unusedVariables false
set_option maxRecDepth 100000

theorem law (a : Option Addr) (n cap : Nat) (W : World) (hn : n ≤ 140737488351232)
    (h : n = 0 ∨ ∃ b off, a = some ⟨b, off, none⟩ ∧ b < W.heap.size ∧ ∀ k, k < n → ∃ x : AskD, AskAt W b (off + k * 18) x ∧ AskOk W x) :
    Calls Try.prog 4 #[.agg #[.slice a n cap]] W fun e w' => e = .returned (.bool true) ∧ Below W.heap.size W w' := by
  have hb : Below W.heap.size W (W.alloc (.cells #[.slice a n cap] 24)) := (Below.refl _ _).alloc (Nat.le_refl _) _
  have HH : Hid (Calls Try.prog 7 #[.agg #[.slice a n cap], .int .i64 3, .int .i64 6] (W.alloc (.cells #[.slice a n cap] 24)) fun e w' => e = .returned (.bool true) ∧ Below W.heap.size W w') := hide (by
    have key : Calls Try.prog 7 #[.agg #[.slice a n cap], .int .i64 3, .int .i64 6] (W.alloc (.cells #[.slice a n cap] 24)) fun e w' => e = .returned (.bool true) ∧ Below (W.alloc (.cells #[.slice a n cap] 24)).heap.size (W.alloc (.cells #[.slice a n cap] 24)) w' := by
      rcases h with rfl | ⟨b, off, rfl, hlt, hE⟩
      · exact held_none a cap 3 6 _
      · refine held_some b off cap n 3 6 _ (by omega) (Nat.lt_of_lt_of_le hlt hb.size) (fun k hk => ?_)
        obtain ⟨x, hx, hok⟩ := hE k hk
        exact ⟨x, hx.below hlt hb, fun W' hW' h1 h2 => answers_3456 x W' (hok.below (chain hb hW' (Nat.le_refl _))) h1 h2⟩
    exact key.mono (fun e w' ⟨q1, q2⟩ => ⟨q1, chain hb q2 (Nat.le_refl _)⟩))
  clear h hb
  go_enter Try.func4, Try.ntmps4
  go_wp2_with fail
  refine (unhide HH).mono ?_
  rintro e w1 ⟨rfl, hb1⟩
  go_wp2
  go_ret
  exact ⟨rfl, hb1⟩

theorem lifted (os : Os) (started : os.Started) (H : Type) (enc : TypeId × Value → H) :
    ReturnsInHanded {} Try.checked os 4 .any (Rows.matchBoundsSpec.pre6 enc Try.prog Try.f4 Rows.matchBoundsRow.domain false) (Rows.matchBoundsSpec.post enc Try.prog Try.f4 false true false false) := by
  refine returnsInHanded_of_change_sized (C := Try.checked) own started (by kernel_rfl) Try.func4
    (ChangeSpec.witness6 (enc := enc) (C := Try.checked) false ⟨#[], #[.agg #[.slice none 0 0]], []⟩ 8 (by kernel_rfl) (by kernel_rfl) (by kernel_rfl) (by kernel_rfl)) ?_
  intro W base args ds gs before hval0 hW hcnd hsz0 _
  have hval : ∀ (j : Nat) t v, Try.f4.params[j]? = some t → args[j]? = some v → Value.okWide Try.prog W .any base t v := hval0
  have hsz : (DataW.weightsEach Try.prog (Try.f4.params.toList ++ Rows.matchBoundsSpec.plain.varTypes Try.prog) (ds ++ gs)).all (· ≤ reachBytes) = true := hsz0
  have hW' := hW
  obtain ⟨p, q, hA0, hV, rfl, hfz, hnd⟩ := hW
  have hA : DataW.TrodAll enc Try.prog W 0 (fun _ => true) true Try.f4.params.toList args.toList ds p := hA0
  rw [Try.params4] at hA hval hsz
  obtain ⟨v0, vs0, d0, ds0, p0, q0, hargs, rfl, rfl, h0, r0⟩ := trodAll_cons hA
  obtain ⟨rfl, rfl, rfl⟩ := trodAll_nil r0
  obtain rfl : args = #[v0] := by cases args; simp_all
  obtain ⟨rfl, rfl⟩ := trodVars_none hV
  have k0 := h0
  have lt0 : ∀ x ∈ p0, x.block < W.heap.size := by obtain ⟨m, hm⟩ := k0; exact DataW.trod_lt m _ _ _ hm
  obtain ⟨cs, rfl, hcs⟩ := okWide_struct Try.underlying24 (hval 0 24 v0 rfl rfl)
  obtain ⟨fuel, hf0⟩ := h0
  obtain ⟨xs, m, _, hx, hl, hlen, hf⟩ := DataW.trod_struct Try.underlying24 hf0
  have hcl : cs.toList.length = 1 := by
    have := hl.trans (show Try.prog.cellsOf 24 = 1 by kernel_rfl)
    simpa [Value.cells] using this
  obtain ⟨u, hu⟩ : ∃ u, cs = #[u] := by
    obtain ⟨l⟩ := cs
    match l, hcl with
    | [u], _ => exact ⟨u, rfl⟩
  subst hu
  match xs, hlen with
  | [y0], _ =>
    have ht : DataW.trod enc Try.prog W 0 (fun _ => true) true m 22 [u] = some y0 := by
      have h1 := hf 0 _ rfl
      have h2 : Try.prog.cellsOf 22 = 1 := by kernel_rfl
      simp only [Value.cells] at h1
      exact h1
    have hd : d0 = .agg [y0.1] := by
      have := congrArg Prod.fst hx
      exact this
    obtain ⟨a, n, cap, rfl, hn, hE⟩ := open_asks ht (fun m hm => held_sized hsz (by
      rw [hd]
      simp only [DataW.weights, Try.underlying24]
      exact DataW.weights_mem_each (j := 0) (t := 22) (d := y0.1) rfl rfl _ hm))
    clear hA0 hval0 hsz0
    refine (law a n cap W hn hE).mono fun e W' ⟨he, bel⟩ => ?_
    subst he
    exact ⟨_, rfl, _, _, _, [], _, [], hW', trodAll_mk1 (shut_bool Try.underlying4 _), (trodAll_cons_mk (Below.trod laidOut (by kernel_rfl) (of_decide_eq_true (by kernel_rfl)) k0 bel lt0) trodAll_mk0), rfl, bel.frame _, fun h => by cases h⟩

theorem over : Rows.matchBoundsRow.holds Try.pinned (OpenSpec.ofChange Rows.matchBoundsSpec) :=
  OpenClaim.holds_of_wide 4 Try.f4 rfl rfl rfl rfl rfl rfl rfl ⟨rfl, rfl, rfl, rfl, rfl⟩ rfl rfl rfl rfl rfl (by kernel_rfl) Try.func4 (by kernel_rfl)
    (of_decide_eq_true (by kernel_rfl)) (by unfold Func.isWrapper; first | (rw [if_pos (by decide +kernel)]; kernel_rfl) | (rw [if_neg (by decide +kernel)]; exact ⟨rfl, rfl⟩))
    (fun os started H enc _ => lifted os started H enc)
end Go.Proofs.Ytidfbelckdlbhab.MatchBounds
namespace Go.Proofs.Ytidfbelckdlbhab
theorem matchBounds_holds : Rows.MatchBoundsSaid := MatchBounds.over
end Go.Proofs.Ytidfbelckdlbhab
