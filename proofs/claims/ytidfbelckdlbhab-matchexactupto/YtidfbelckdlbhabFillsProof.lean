/- MatchFills, up to the bound: the row. -/
import Derived.Test.YtidfbelckdlbhabAnG
import Derived.Test.YtidfbelckdlbhabAnF
import Derived.Test.YtidfbelckdlbhabOpU
import Derived.JoinedCond
import Derived.HandedShaped
namespace Go.Proofs.Ytidfbelckdlbhab
open Go.ChangeShapes Go.WideShapes Go.ChangeAt Go.RowKit
/-- a condition of the specification's own, and the world's shape, both handed on -/
theorem wrap_cond_shaped {H : Type} {enc : TypeId × Value → H} {a : Assume} {C : Checked} {os : Os} {f : FuncId} {fn : Func} {s : OpenSpec} {k : (H : Type) → List (DataW H) → Bool} (hk : s.cond = some k) {F : Stop.Interp} {conds : List PathCond} {apart fresh handsOn again : Bool}
    (own : ownKnob C.prog.godebug = none) (started : os.Started) (noInit : C.prog.inits.idxOf? f = none) (hfn : C.prog.funcs[f]? = some fn)
    (witness : ∃ (w : World) (tape : Tape) (i : Input), w.os = os ∧ (w.forCall tape i).Shaped C.prog ∧ i.vars = [] ∧ Input.okWide C.prog (w.forCall tape i) .any w.heap.size f i ∧
      s.pre6 enc C.prog fn conds apart (w.forCall tape i).memory i.args ∧ a.holds C.prog (lone (Frame.enter C.prog f i.args .normal) [] (w.forCall tape i)))
    (contract : ∀ (W : World) (base : Nat) (args : Array Value) (ds gs : List (DataW H)) (before : List MemPlace),
      (∀ (j : Nat) t v, fn.params[j]? = some t → args[j]? = some v → Value.okWide C.prog W .any base t v) →
      DataW.Whole enc C.prog fn.params.toList s.vars apart W args.toList ds gs before →
      k H (ds ++ gs) = true → W.ShapedOpen C.prog →
      Calls C.prog f args W fun e W' => ∃ v, e = .returned v ∧ (s.at F).post enc C.prog fn apart fresh handsOn again W args v W') :
    ReturnsInHanded a C os f .any (s.pre6 enc C.prog fn conds apart) ((s.at F).post enc C.prog fn apart fresh handsOn again) := by
  refine returnsInHanded_of_calls own started noInit witness ?_
  intro w tape i _ hsh _ hok hpre hholds
  obtain ⟨_, _, _, fn', hfn', _, _, _, _, hval⟩ := hok
  have e : fn' = fn := Option.some.inj (hfn'.symm.trans hfn)
  subst e
  obtain ⟨ds, gs, before, hw, hc, hkk⟩ := (OpenSpec.pre_some hk conds apart _ _).1 hpre.1
  have hw' := DataW.Whole.of_heap (w' := w.forCall tape i) (by rfl) hw
  refine (contract (w.forCall tape i) w.heap.size i.args ds gs before hval hw' hkk hsh).mono fun e W' ⟨v, he, hp⟩ => ?_
  subst he
  exact ChangeSpec.post_blind hp

theorem answers_78 (x : AskD) (W : World) (m : Int) (hm : W.cell? ⟨0, 0, none⟩ = some (.int .i64 m)) (hok : AskOk W x) (hf : AskFew x) (h1 : 7 ≤ x.D) (h2 : x.D ≤ 8) : Calls Try.prog 9 #[.agg x.arr] W fun e w' => e = .returned (.bool true) ∧ Below W.heap.size W w' := by
  obtain ⟨D, P, aP, cP, T, aT, cT, I, J, N, lf, ls, lo, hf', hs, ho, ff, F, aF, cF, fo, uf, U, aU, cU, uo⟩ := x
  have hD : D = 7 ∨ D = 8 := by
    have h1 : 7 ≤ D := h1
    have h2 : D ≤ 8 := h2
    omega
  rcases hD with rfl | rfl
  · exact answers_fold _ _ _ _ _ _ _ _ _ _ _ _ _ _ _ _ W hok.2.1
  · exact answers_fill _ _ _ _ _ _ _ _ _ _ _ _ _ _ _ W m hm hok.2.1 hok.2.2.1 hf.1 hf.2.1
end Go.Proofs.Ytidfbelckdlbhab
namespace Go.Proofs.Ytidfbelckdlbhab.MatchFills
open Go.ChangeShapes Go.WideShapes Go.ChangeAt Go.RowKit Go.Joins
set_option linter.unusedVariables false
set_option maxRecDepth 100000

theorem law (a : Option Addr) (n cap : Nat) (W : World) (m : Int) (hm : W.cell? ⟨0, 0, none⟩ = some (.int .i64 m)) (hn : n ≤ 1048576)
    (h : n = 0 ∨ ∃ b off, a = some ⟨b, off, none⟩ ∧ b < W.heap.size ∧ ∀ k, k < n → ∃ x : AskD, AskAt W b (off + k * 18) x ∧ AskOk W x ∧ AskFew x) :
    Calls Try.prog 5 #[.agg #[.slice a n cap]] W fun e w' => e = .returned (.bool true) ∧ Below W.heap.size W w' := by
  have hb : Below W.heap.size W (W.alloc (.cells #[.slice a n cap] 24)) := (Below.refl _ _).alloc (Nat.le_refl _) _
  have h00 : 0 < W.heap.size := block_lt_of_cell hm
  have HH : Hid (Calls Try.prog 7 #[.agg #[.slice a n cap], .int .i64 7, .int .i64 8] (W.alloc (.cells #[.slice a n cap] 24)) fun e w' => e = .returned (.bool true) ∧ Below W.heap.size W w') := hide (by
    have key : Calls Try.prog 7 #[.agg #[.slice a n cap], .int .i64 7, .int .i64 8] (W.alloc (.cells #[.slice a n cap] 24)) fun e w' => e = .returned (.bool true) ∧ Below (W.alloc (.cells #[.slice a n cap] 24)).heap.size (W.alloc (.cells #[.slice a n cap] 24)) w' := by
      rcases h with rfl | ⟨b, off, rfl, hlt, hE⟩
      · exact held_none a cap 7 8 _
      · refine held_some b off cap n 7 8 _ (by omega) (Nat.lt_of_lt_of_le hlt hb.size) (fun k hk => ?_)
        obtain ⟨x, hx, hok, hfew⟩ := hE k hk
        refine ⟨x, hx.below hlt hb, fun W' hW' h1 h2 => ?_⟩
        have hbb := chain hb hW' (Nat.le_refl _)
        exact answers_78 x W' m ((hbb.cell (p := ⟨0, 0, none⟩) h00).trans hm) (hok.below hbb) hfew h1 h2
    exact key.mono (fun e w' ⟨q1, q2⟩ => ⟨q1, chain hb q2 (Nat.le_refl _)⟩))
  clear h hb hm
  go_enter Try.func5, Try.ntmps5
  go_wp2_with fail
  refine (unhide HH).mono ?_
  rintro e w1 ⟨rfl, hb1⟩
  go_wp2
  go_ret
  exact ⟨rfl, hb1⟩

theorem lifted (os : Os) (started : os.Started) (H : Type) (enc : TypeId × Value → H) (F : Stop.Interp) :
    ReturnsInHanded {} Try.checked os 5 .any ((Rows.OpenSpec.upto Rows.matchFillsSpec).pre6 enc Try.prog Try.f5 Rows.matchFillsUptoRow.domain false) (((Rows.OpenSpec.upto Rows.matchFillsSpec).at F).post enc Try.prog Try.f5 false true false false) := by
  refine wrap_cond_shaped (C := Try.checked) (s := Rows.OpenSpec.upto Rows.matchFillsSpec) (k := Rows.uptoSmall) rfl own started (by kernel_rfl) Try.func5
    (OpenSpec.witness (enc := enc) (C := Try.checked) (s := Rows.OpenSpec.upto Rows.matchFillsSpec) (k := Rows.uptoSmall) rfl false ⟨#[], #[.agg #[.slice none 0 0]], []⟩ 8 (by kernel_rfl) (by kernel_rfl) (by kernel_rfl)
      (x := ([.agg [.nil]], [], [])) (by kernel_rfl) rfl (by kernel_rfl)) ?_
  intro W base args ds gs before hval0 hW hk hsh
  obtain ⟨m, hm⟩ := Try.laysM185.s1_3 W hsh
  have hm' : W.cell? ⟨0, 0, none⟩ = some (.int .i64 m) := hm
  have hval : ∀ (j : Nat) t v, Try.f5.params[j]? = some t → args[j]? = some v → Value.okWide Try.prog W .any base t v := hval0
  have hW' := hW
  obtain ⟨p, q, hA0, hV, rfl, hfz, hnd⟩ := hW
  have hA : DataW.TrodAll enc Try.prog W 0 (fun _ => true) true Try.f5.params.toList args.toList ds p := hA0
  rw [Try.params5] at hA hval
  obtain ⟨v0, vs0, d0, ds0, p0, q0, hargs, rfl, rfl, h0, r0⟩ := trodAll_cons hA
  obtain ⟨rfl, rfl, rfl⟩ := trodAll_nil r0
  obtain rfl : args = #[v0] := by cases args; simp_all
  obtain ⟨rfl, rfl⟩ := trodVars_none hV
  have k0 := h0
  have lt0 : ∀ x ∈ p0, x.block < W.heap.size := by obtain ⟨m, hm⟩ := k0; exact DataW.trod_lt m _ _ _ hm
  obtain ⟨cs, rfl, hcs⟩ := okWide_struct Try.underlying24 (hval 0 24 v0 rfl rfl)
  obtain ⟨fuel, hf0⟩ := h0
  obtain ⟨xs, m2, _, hx, hl, hlen, hf⟩ := DataW.trod_struct Try.underlying24 hf0
  have hcl : cs.toList.length = 1 := by
    have := hl.trans (show Try.prog.cellsOf 24 = 1 by kernel_rfl)
    simpa [Value.cells] using this
  obtain ⟨u, hu⟩ : ∃ u, cs = #[u] := by
    obtain ⟨l⟩ := cs
    match l, hcl with
    | [u], _ => exact ⟨u, rfl⟩
  subst hu
  match xs, hlen with
  | [y0], _ =>
    have ht : DataW.trod enc Try.prog W 0 (fun _ => true) true m2 22 [u] = some y0 := by
      have h1 := hf 0 _ rfl
      have h2 : Try.prog.cellsOf 22 = 1 := by kernel_rfl
      simp only [Value.cells] at h1
      exact h1
    have hd : d0 = .agg [y0.1] := by
      have := congrArg Prod.fst hx
      exact this
    have hbulk : Rows.uptoBulk y0.1 ≤ 1048576 := by
      have h1 : Rows.uptoBulkAll ([d0] ++ []) ≤ 1048576 := of_decide_eq_true hk
      rw [hd] at h1
      simp only [List.append_nil, Rows.uptoBulkAll, Rows.uptoBulk] at h1
      omega
    obtain ⟨a, n, cap, rfl, hn, hE⟩ := open_asksU ht hbulk
    clear hA0 hval0
    refine (law a n cap W m hm' hn hE).mono fun e W' ⟨he, bel⟩ => ?_
    subst he
    exact ⟨_, rfl, _, _, _, [], _, [], hW', trodAll_mk1 (shut_bool Try.underlying4 _), (trodAll_cons_mk (Below.trod laidOut (by kernel_rfl) (of_decide_eq_true (by kernel_rfl)) k0 bel lt0) trodAll_mk0), rfl, bel.frame _, fun h => by cases h⟩

theorem over : Rows.MatchFillsUptoSaid :=
  OpenClaim.holds_of_cond 5 Try.f5 rfl rfl rfl rfl rfl rfl rfl ⟨rfl, rfl, rfl, rfl, rfl⟩ rfl rfl rfl rfl rfl (by kernel_rfl) Try.func5 (by kernel_rfl)
    (of_decide_eq_true (by kernel_rfl)) (by unfold Func.isWrapper; first | (rw [if_pos (by decide +kernel)]; kernel_rfl) | (rw [if_neg (by decide +kernel)]; exact ⟨rfl, rfl⟩))
    (fun os started H enc _ F => lifted os started H enc F)
end Go.Proofs.Ytidfbelckdlbhab.MatchFills
namespace Go.Proofs.Ytidfbelckdlbhab
theorem matchFills_upto : Rows.MatchFillsUptoSaid := MatchFills.over
end Go.Proofs.Ytidfbelckdlbhab
