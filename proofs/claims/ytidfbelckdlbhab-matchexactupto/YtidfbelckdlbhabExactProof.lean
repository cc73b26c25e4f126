/- MatchExact, up to the bound: the row. -/
import Derived.Test.YtidfbelckdlbhabFillsProof
import Derived.Test.YtidfbelckdlbhabAnH
import Derived.Test.YtidfbelckdlbhabAnW
import Derived.Test.YtidfbelckdlbhabAnB
namespace Go.Proofs.Ytidfbelckdlbhab
open Go.ChangeShapes Go.WideShapes Go.ChangeAt Go.RowKit
theorem answers_all (x : AskD) (W : World) (m : Int) (hm : W.cell? ⟨0, 0, none⟩ = some (.int .i64 m)) (hok : AskOk W x) (hf : AskFew x) (h1 : 1 ≤ x.D) (h2 : x.D ≤ 8) : Calls Try.prog 9 #[.agg x.arr] W fun e w' => e = .returned (.bool true) ∧ Below W.heap.size W w' := by
  by_cases h3 : x.D ≤ 2
  · obtain ⟨D, P, aP, cP, T, aT, cT, I, J, N, lf, ls, lo, hf', hs, ho, ff, F, aF, cF, fo, uf, U, aU, cU, uo⟩ := x
    have hD : D = 1 ∨ D = 2 := by
      have h1 : 1 ≤ D := h1
      have h2 : D ≤ 2 := h3
      omega
    rcases hD with rfl | rfl
    · exact answers_glob _ _ _ _ _ _ _ _ _ _ _ _ _ _ _ W hok.2.1 hok.2.2.1 hf.1 hf.2.1
    · exact answers_win _ _ _ _ _ _ _ _ _ _ _ _ _ _ I J N W hok.1.2.1 hok.1.2.2.1 hok.1.2.2.2.1
  · by_cases h4 : x.D ≤ 6
    · exact answers_3456 x W hok (by omega) h4
    · exact answers_78 x W m hm hok hf (by omega) h2
end Go.Proofs.Ytidfbelckdlbhab
namespace Go.Proofs.Ytidfbelckdlbhab.MatchExact
open Go.ChangeShapes Go.WideShapes Go.ChangeAt Go.RowKit Go.Joins
set_option linter.unusedVariables false
set_option maxRecDepth 100000

theorem held_all (a : Option Addr) (n cap : Nat) (W : World) (m : Int) (hm : W.cell? ⟨0, 0, none⟩ = some (.int .i64 m)) (hn : n ≤ 1048576)
    (h : n = 0 ∨ ∃ b off, a = some ⟨b, off, none⟩ ∧ b < W.heap.size ∧ ∀ k, k < n → ∃ x : AskD, AskAt W b (off + k * 18) x ∧ AskOk W x ∧ AskFew x) :
    Calls Try.prog 7 #[.agg #[.slice a n cap], .int .i64 1, .int .i64 8] W fun e w' => e = .returned (.bool true) ∧ Below W.heap.size W w' := by
  have h00 : 0 < W.heap.size := block_lt_of_cell hm
  rcases h with rfl | ⟨b, off, rfl, hlt, hE⟩
  · exact held_none a cap 1 8 _
  · refine held_some b off cap n 1 8 _ (by omega) hlt (fun k hk => ?_)
    obtain ⟨x, hx, hok, hfew⟩ := hE k hk
    exact ⟨x, hx, fun W' hW' h1 h2 => answers_all x W' m ((hW'.cell (p := ⟨0, 0, none⟩) h00).trans hm) (hok.below hW') hfew h1 h2⟩

theorem law (a : Option Addr) (n cap : Nat) (W : World) (m : Int) (hm : W.cell? ⟨0, 0, none⟩ = some (.int .i64 m)) (hn : n ≤ 1048576)
    (h : n = 0 ∨ ∃ b off, a = some ⟨b, off, none⟩ ∧ b < W.heap.size ∧ ∀ k, k < n → ∃ x : AskD, AskAt W b (off + k * 18) x ∧ AskOk W x ∧ AskFew x) :
    Calls Try.prog 6 #[.agg #[.slice a n cap]] W fun e w' => e = .returned (.bool true) ∧ Below W.heap.size W w' := by
  have h00 : 0 < W.heap.size := block_lt_of_cell hm
  have up : ∀ W', Below W.heap.size W W' → (n = 0 ∨ ∃ b off, a = some ⟨b, off, none⟩ ∧ b < W'.heap.size ∧ ∀ k, k < n → ∃ x : AskD, AskAt W' b (off + k * 18) x ∧ AskOk W' x ∧ AskFew x) := fun W' hb => by
    rcases h with h | ⟨b, off, e, hlt, hE⟩
    · exact .inl h
    · refine .inr ⟨b, off, e, Nat.lt_of_lt_of_le hlt hb.size, fun k hk => ?_⟩
      obtain ⟨x, hx, hok, hfew⟩ := hE k hk
      exact ⟨x, hx.below hlt hb, hok.below hb, hfew⟩
  have HH : Hid (∀ W', Hid (W'.heap[W.heap.size]? = some (.cells #[.slice a n cap] 24 (0, 0)) ∧ Below W.heap.size W W') → Calls Try.prog 7 #[.agg #[.slice a n cap], .int .i64 1, .int .i64 8] W' fun e w' => e = .returned (.bool true) ∧ Hid (w'.heap[W.heap.size]? = some (.cells #[.slice a n cap] 24 (0, 0)) ∧ Below W.heap.size W w') ∧ w'.cell? ⟨W.heap.size, 0, none⟩ = some (.slice a n cap)) := hide (fun W' hW => by
    refine (held_all a n cap W' m (((unhide hW).2.cell (p := ⟨0, 0, none⟩) h00).trans hm) hn (up W' (unhide hW).2)).mono ?_
    rintro e w' ⟨rfl, q2⟩
    have q3 : w'.heap[W.heap.size]? = some (.cells #[.slice a n cap] 24 (0, 0)) := (q2.block _ (Array.getElem?_eq_some_iff.1 (unhide hW).1).1).trans (unhide hW).1
    exact ⟨rfl, hide ⟨q3, chain (unhide hW).2 q2 (Nat.le_refl _)⟩, by rw [cell_of_row _ _ _ _ _ _ q3]; rfl⟩)
  have K0 : Hid ((W.alloc (.cells #[.slice a n cap] 24)).heap[W.heap.size]? = some (.cells #[.slice a n cap] 24 (0, 0)) ∧ Below W.heap.size W (W.alloc (.cells #[.slice a n cap] 24))) := hide ⟨heap_alloc_new _ _, (Below.refl _ _).alloc (Nat.le_refl _) _⟩
  clear h hm up
  go_enter Try.func6, Try.ntmps6
  go_wp2_with fail
  refine (unhide HH _ K0).mono ?_
  rintro e w1 ⟨rfl, k1, x1⟩
  go_wp2_with fail
  refine (unhide HH _ k1).mono ?_
  rintro e w2 ⟨rfl, k2, x2⟩
  go_wp2
  go_ret
  exact ⟨rfl, (unhide k2).2⟩

theorem lifted (os : Os) (started : os.Started) (H : Type) (enc : TypeId × Value → H) (F : Stop.Interp) :
    ReturnsInHanded {} Try.checked os 6 .any ((Rows.OpenSpec.upto Rows.matchExactSpec).pre6 enc Try.prog Try.f6 Rows.matchExactUptoRow.domain false) (((Rows.OpenSpec.upto Rows.matchExactSpec).at F).post enc Try.prog Try.f6 false true false false) := by
  refine wrap_cond_shaped (C := Try.checked) (s := Rows.OpenSpec.upto Rows.matchExactSpec) (k := Rows.uptoSmall) rfl own started (by kernel_rfl) Try.func6
    (OpenSpec.witness (enc := enc) (C := Try.checked) (s := Rows.OpenSpec.upto Rows.matchExactSpec) (k := Rows.uptoSmall) rfl false ⟨#[], #[.agg #[.slice none 0 0]], []⟩ 8 (by kernel_rfl) (by kernel_rfl) (by kernel_rfl)
      (x := ([.agg [.nil]], [], [])) (by kernel_rfl) rfl (by kernel_rfl)) ?_
  intro W base args ds gs before hval0 hW hk hsh
  obtain ⟨m, hm⟩ := Try.laysM185.s1_3 W hsh
  have hm' : W.cell? ⟨0, 0, none⟩ = some (.int .i64 m) := hm
  have hval : ∀ (j : Nat) t v, Try.f6.params[j]? = some t → args[j]? = some v → Value.okWide Try.prog W .any base t v := hval0
  have hW' := hW
  obtain ⟨p, q, hA0, hV, rfl, hfz, hnd⟩ := hW
  have hA : DataW.TrodAll enc Try.prog W 0 (fun _ => true) true Try.f6.params.toList args.toList ds p := hA0
  rw [Try.params6] at hA hval
  obtain ⟨v0, vs0, d0, ds0, p0, q0, hargs, rfl, rfl, h0, r0⟩ := trodAll_cons hA
  obtain ⟨rfl, rfl, rfl⟩ := trodAll_nil r0
  obtain rfl : args = #[v0] := by cases args; simp_all
  obtain ⟨rfl, rfl⟩ := trodVars_none hV
  have k0 := h0
  have lt0 : ∀ x ∈ p0, x.block < W.heap.size := by obtain ⟨m, hm⟩ := k0; exact DataW.trod_lt m _ _ _ hm
  obtain ⟨cs, rfl, hcs⟩ := okWide_struct Try.underlying24 (hval 0 24 v0 rfl rfl)
  obtain ⟨fuel, hf0⟩ := h0
  obtain ⟨xs, m2, _, hx, hl, hlen, hf⟩ := DataW.trod_struct Try.underlying24 hf0
  have hcl : cs.toList.length = 1 := by
    have := hl.trans (show Try.prog.cellsOf 24 = 1 by kernel_rfl)
    simpa [Value.cells] using this
  obtain ⟨u, hu⟩ : ∃ u, cs = #[u] := by
    obtain ⟨l⟩ := cs
    match l, hcl with
    | [u], _ => exact ⟨u, rfl⟩
  subst hu
  match xs, hlen with
  | [y0], _ =>
    have ht : DataW.trod enc Try.prog W 0 (fun _ => true) true m2 22 [u] = some y0 := by
      have h1 := hf 0 _ rfl
      have h2 : Try.prog.cellsOf 22 = 1 := by kernel_rfl
      simp only [Value.cells] at h1
      exact h1
    have hd : d0 = .agg [y0.1] := by
      have := congrArg Prod.fst hx
      exact this
    have hbulk : Rows.uptoBulk y0.1 ≤ 1048576 := by
      have h1 : Rows.uptoBulkAll ([d0] ++ []) ≤ 1048576 := of_decide_eq_true hk
      rw [hd] at h1
      simp only [List.append_nil, Rows.uptoBulkAll, Rows.uptoBulk] at h1
      omega
    obtain ⟨a, n, cap, rfl, hn, hE⟩ := open_asksU ht hbulk
    clear hA0 hval0
    refine (law a n cap W m hm' hn hE).mono fun e W' ⟨he, bel⟩ => ?_
    subst he
    exact ⟨_, rfl, _, _, _, [], _, [], hW', trodAll_mk1 (shut_bool Try.underlying4 _), (trodAll_cons_mk (Below.trod laidOut (by kernel_rfl) (of_decide_eq_true (by kernel_rfl)) k0 bel lt0) trodAll_mk0), rfl, bel.frame _, fun h => by cases h⟩

theorem over : Rows.MatchExactUptoSaid :=
  OpenClaim.holds_of_cond 6 Try.f6 rfl rfl rfl rfl rfl rfl rfl ⟨rfl, rfl, rfl, rfl, rfl⟩ rfl rfl rfl rfl rfl (by kernel_rfl) Try.func6 (by kernel_rfl)
    (of_decide_eq_true (by kernel_rfl)) (by unfold Func.isWrapper; first | (rw [if_pos (by decide +kernel)]; kernel_rfl) | (rw [if_neg (by decide +kernel)]; exact ⟨rfl, rfl⟩))
    (fun os started H enc _ F => lifted os started H enc F)
end Go.Proofs.Ytidfbelckdlbhab.MatchExact
namespace Go.Proofs.Ytidfbelckdlbhab
theorem matchExact_upto : Rows.MatchExactUptoSaid := MatchExact.over
end Go.Proofs.Ytidfbelckdlbhab
