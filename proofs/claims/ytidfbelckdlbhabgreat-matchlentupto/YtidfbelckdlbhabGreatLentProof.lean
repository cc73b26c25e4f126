/- MatchLent, up to the bound: the row. -/
import Derived.Test.YtidfbelckdlbhabGreatMew
import Derived.Test.YtidfbelckdlbhabGreatOpU
import Derived.JoinedCond
import Derived.HandedShaped
namespace Go.Proofs.YtidfbelckdlbhabGreat
open Go.ChangeShapes Go.WideShapes Go.ChangeAt Go.RowKit
set_option linter.unusedVariables false
set_option linter.unusedSimpArgs false
set_option maxRecDepth 20000
set_option maxHeartbeats 4000000
/-- a condition of the specification's own, and the world's shape, both handed on -/
theorem wrap_cond_shaped {H : Type} {enc : TypeId × Value → H} {a : Assume} {C : Checked} {os : Os} {f : FuncId} {fn : Func} {s : OpenSpec} {k : (H : Type) → List (DataW H) → Bool} (hk : s.cond = some k) {F : Stop.Interp} {conds : List PathCond} {apart fresh handsOn again : Bool}
    (own : ownKnob C.prog.godebug = none) (started : os.Started) (noInit : C.prog.inits.idxOf? f = none) (hfn : C.prog.funcs[f]? = some fn)
    (witness : ∃ (w : World) (tape : Tape) (i : Input), w.os = os ∧ (w.forCall tape i).Shaped C.prog ∧ i.vars = [] ∧ Input.okWide C.prog (w.forCall tape i) .any w.heap.size f i ∧
      s.pre6 enc C.prog fn conds apart (w.forCall tape i).memory i.args ∧ a.holds C.prog (lone (Frame.enter C.prog f i.args .normal) [] (w.forCall tape i)))
    (contract : ∀ (W : World) (base : Nat) (args : Array Value) (ds gs : List (DataW H)) (before : List MemPlace),
      (∀ (j : Nat) t v, fn.params[j]? = some t → args[j]? = some v → Value.okWide C.prog W .any base t v) →
      DataW.Whole enc C.prog fn.params.toList s.vars apart W args.toList ds gs before →
      k H (ds ++ gs) = true → W.ShapedOpen C.prog →
      Calls C.prog f args W fun e W' => ∃ v, e = .returned v ∧ (s.at F).post enc C.prog fn apart fresh handsOn again W args v W') :
    ReturnsInHanded a C os f .any (s.pre6 enc C.prog fn conds apart) ((s.at F).post enc C.prog fn apart fresh handsOn again) := by
  refine returnsInHanded_of_calls own started noInit witness ?_
  intro w tape i _ hsh _ hok hpre hholds
  obtain ⟨_, _, _, fn', hfn', _, _, _, _, hval⟩ := hok
  have e : fn' = fn := Option.some.inj (hfn'.symm.trans hfn)
  subst e
  obtain ⟨ds, gs, before, hw, hc, hkk⟩ := (OpenSpec.pre_some hk conds apart _ _).1 hpre.1
  have hw' := DataW.Whole.of_heap (w' := w.forCall tape i) (by rfl) hw
  refine (contract (w.forCall tape i) w.heap.size i.args ds gs before hval hw' hkk hsh).mono fun e W' ⟨v, he, hp⟩ => ?_
  subst he
  exact ChangeSpec.post_blind hp

theorem held_none (w : World) (a : Option Addr) (cap : Nat) : Calls Tryz.prog 6 #[.agg #[.slice a 0 cap]] w fun e w' => e = .returned (.bool true) ∧ Below w.heap.size w w' := by
  obtain ⟨w1, hw1⟩ : ∃ w1, w1 = ((((w.alloc (.cells #[.slice a 0 cap] 24)).alloc (.cells #[.slice none 0 0, .slice none 0 0, .slice none 0 0, .slice none 0 0, .slice none 0 0, .slice none 0 0, .slice none 0 0, .slice none 0 0, .int .i64 0] 73)).alloc (.cells #[.slice none 0 0, .slice none 0 0] 76)).alloc (.cells #[.slice none 0 0, .slice none 0 0] 76)).alloc (.cells #[.slice none 0 0, .slice none 0 0] 76) := ⟨_, rfl⟩
  have HW1 := hide hw1
  have B1 : Hid (Below w.heap.size w w1) := hide (by
    rw [hw1]
    exact (((((Below.refl _ _).alloc (Nat.le_refl _) _).alloc (by simp) _).alloc (by simp; omega) _).alloc (by simp; omega) _).alloc (by simp; omega) _)
  have HS1 : Hid (Hs w1 w1 w.heap.size 0 [] [] []) := hide (by
    rw [hw1]
    have z1 := heap_alloc_new (w.alloc (.cells #[.slice a 0 cap] 24)) (.cells #[.slice none 0 0, .slice none 0 0, .slice none 0 0, .slice none 0 0, .slice none 0 0, .slice none 0 0, .slice none 0 0, .slice none 0 0, .int .i64 0] 73)
    have z2 := heap_alloc_new ((w.alloc (.cells #[.slice a 0 cap] 24)).alloc (.cells #[.slice none 0 0, .slice none 0 0, .slice none 0 0, .slice none 0 0, .slice none 0 0, .slice none 0 0, .slice none 0 0, .slice none 0 0, .int .i64 0] 73)) (.cells #[.slice none 0 0, .slice none 0 0] 76)
    have z3 := heap_alloc_new (((w.alloc (.cells #[.slice a 0 cap] 24)).alloc (.cells #[.slice none 0 0, .slice none 0 0, .slice none 0 0, .slice none 0 0, .slice none 0 0, .slice none 0 0, .slice none 0 0, .slice none 0 0, .int .i64 0] 73)).alloc (.cells #[.slice none 0 0, .slice none 0 0] 76)) (.cells #[.slice none 0 0, .slice none 0 0] 76)
    have z4 := heap_alloc_new ((((w.alloc (.cells #[.slice a 0 cap] 24)).alloc (.cells #[.slice none 0 0, .slice none 0 0, .slice none 0 0, .slice none 0 0, .slice none 0 0, .slice none 0 0, .slice none 0 0, .slice none 0 0, .int .i64 0] 73)).alloc (.cells #[.slice none 0 0, .slice none 0 0] 76)).alloc (.cells #[.slice none 0 0, .slice none 0 0] 76)) (.cells #[.slice none 0 0, .slice none 0 0] 76)
    simp only [size_alloc'] at z1 z2 z3 z4
    refine Hs.start w.heap.size ?_ ?_ ?_ ?_
    · exact (Below.heap_alloc _ _ _ (by simp)).trans ((Below.heap_alloc _ _ _ (by simp)).trans ((Below.heap_alloc _ _ _ (by simp)).trans z1))
    · exact (Below.heap_alloc _ _ _ (by simp)).trans ((Below.heap_alloc _ _ _ (by simp)).trans z2)
    · exact (Below.heap_alloc _ _ _ (by simp)).trans z3
    · exact z4)
  have S1 : Hid (w1.cell? ⟨w.heap.size, 0, none⟩ = some (.slice a 0 cap)) := hide (by
    rw [hw1]
    have z0 := (Below.heap_alloc _ (.cells #[.slice none 0 0, .slice none 0 0] 76) _ (by simp; omega)).trans ((Below.heap_alloc _ (.cells #[.slice none 0 0, .slice none 0 0] 76) _ (by simp; omega)).trans ((Below.heap_alloc _ (.cells #[.slice none 0 0, .slice none 0 0] 76) _ (by simp; omega)).trans ((Below.heap_alloc _ (.cells #[.slice none 0 0, .slice none 0 0, .slice none 0 0, .slice none 0 0, .slice none 0 0, .slice none 0 0, .slice none 0 0, .slice none 0 0, .int .i64 0] 73) _ (by simp)).trans (heap_alloc_new w (.cells #[.slice a 0 cap] 24)))))
    rw [cell_of_row _ _ _ _ _ _ z0]
    rfl)
  clear hw1
  go_enter Tryz.func6, Tryz.ntmps6
  go_wp2
  go_loopw [7] (fun iv wr => iv = .int .i64 0 ∧ wr = w1) (fun _ _ => 0)
  case atStart => exact ⟨rfl, by rw [unhide HW1]⟩
  case round =>
    obtain ⟨rfl, rfl⟩ := hrel
    have c0 := unhide S1
    go_wp2_with fail
    refine ((unhide HS1).given).mono ?_
    rintro e w5 ⟨rfl, k5⟩
    go_wp2
    go_ret
    exact ⟨rfl, (unhide B1).trans ((unhide k5).low (unhide B1).size)⟩
theorem marked_none (w : World) (a : Option Addr) (cap : Nat) : Calls Tryz.prog 5 #[.agg #[.slice a 0 cap]] w fun e w' => e = .returned (.bool true) ∧ Below w.heap.size w w' := by
  obtain ⟨w1, hw1⟩ : ∃ w1, w1 = ((w.alloc (.cells #[.slice a 0 cap] 24)).alloc (.cells #[.slice none 0 0, .slice none 0 0, .int .i64 0, .slice none 0 0, .slice none 0 0, .int .i64 0, .slice none 0 0, .slice none 0 0, .int .i64 0, .slice none 0 0, .slice none 0 0, .int .i64 0, .slice none 0 0, .slice none 0 0, .int .i64 0, .slice none 0 0, .slice none 0 0, .int .i64 0, .slice none 0 0, .slice none 0 0, .int .i64 0, .slice none 0 0, .slice none 0 0, .int .i64 0, .slice none 0 0, .slice none 0 0, .int .i64 0, .slice none 0 0, .slice none 0 0, .int .i64 0, .int .i64 0, .int .i64 0, .int .i64 0] 53)).alloc (.cells #[.int .i64 0] 56) := ⟨_, rfl⟩
  have HW1 := hide hw1
  have B1 : Hid (Below w.heap.size w w1) := hide (by
    rw [hw1]
    exact (((Below.refl _ _).alloc (Nat.le_refl _) _).alloc (by simp) _).alloc (by simp; omega) _)
  have HS1 : Hid (Ms w1 w1 w.heap.size 0 0 [] []) := hide (by
    rw [hw1]
    have z1 := heap_alloc_new (w.alloc (.cells #[.slice a 0 cap] 24)) (.cells #[.slice none 0 0, .slice none 0 0, .int .i64 0, .slice none 0 0, .slice none 0 0, .int .i64 0, .slice none 0 0, .slice none 0 0, .int .i64 0, .slice none 0 0, .slice none 0 0, .int .i64 0, .slice none 0 0, .slice none 0 0, .int .i64 0, .slice none 0 0, .slice none 0 0, .int .i64 0, .slice none 0 0, .slice none 0 0, .int .i64 0, .slice none 0 0, .slice none 0 0, .int .i64 0, .slice none 0 0, .slice none 0 0, .int .i64 0, .slice none 0 0, .slice none 0 0, .int .i64 0, .int .i64 0, .int .i64 0, .int .i64 0] 53)
    have z2 := heap_alloc_new ((w.alloc (.cells #[.slice a 0 cap] 24)).alloc (.cells #[.slice none 0 0, .slice none 0 0, .int .i64 0, .slice none 0 0, .slice none 0 0, .int .i64 0, .slice none 0 0, .slice none 0 0, .int .i64 0, .slice none 0 0, .slice none 0 0, .int .i64 0, .slice none 0 0, .slice none 0 0, .int .i64 0, .slice none 0 0, .slice none 0 0, .int .i64 0, .slice none 0 0, .slice none 0 0, .int .i64 0, .slice none 0 0, .slice none 0 0, .int .i64 0, .slice none 0 0, .slice none 0 0, .int .i64 0, .slice none 0 0, .slice none 0 0, .int .i64 0, .int .i64 0, .int .i64 0, .int .i64 0] 53)) (.cells #[.int .i64 0] 56)
    simp only [size_alloc'] at z1 z2
    refine Ms.start w.heap.size ?_ ?_
    · exact (Below.heap_alloc _ _ _ (by simp)).trans z1
    · exact z2)
  have S1 : Hid (w1.cell? ⟨w.heap.size, 0, none⟩ = some (.slice a 0 cap)) := hide (by
    rw [hw1]
    have z0 := (Below.heap_alloc _ (.cells #[.int .i64 0] 56) _ (by simp; omega)).trans ((Below.heap_alloc _ (.cells #[.slice none 0 0, .slice none 0 0, .int .i64 0, .slice none 0 0, .slice none 0 0, .int .i64 0, .slice none 0 0, .slice none 0 0, .int .i64 0, .slice none 0 0, .slice none 0 0, .int .i64 0, .slice none 0 0, .slice none 0 0, .int .i64 0, .slice none 0 0, .slice none 0 0, .int .i64 0, .slice none 0 0, .slice none 0 0, .int .i64 0, .slice none 0 0, .slice none 0 0, .int .i64 0, .slice none 0 0, .slice none 0 0, .int .i64 0, .slice none 0 0, .slice none 0 0, .int .i64 0, .int .i64 0, .int .i64 0, .int .i64 0] 53) _ (by simp)).trans (heap_alloc_new w (.cells #[.slice a 0 cap] 24)))
    rw [cell_of_row _ _ _ _ _ _ z0]
    rfl)
  clear hw1
  go_enter Tryz.func5, Tryz.ntmps5
  go_wp2
  go_loopw [5] (fun iv wr => iv = .int .i64 0 ∧ wr = w1) (fun _ _ => 0)
  case atStart => exact ⟨rfl, by rw [unhide HW1]⟩
  case round =>
    obtain ⟨rfl, rfl⟩ := hrel
    have c0 := unhide S1
    go_wp2_with fail
    refine ((unhide HS1).look).mono ?_
    rintro e w5 ⟨rfl, k5⟩
    go_wp2
    go_ret
    exact ⟨rfl, (unhide B1).trans ((unhide k5).kept.low (unhide B1).size)⟩
theorem lent_law (a : Option Addr) (n cap : Nat) (W : World) (m : Int) (hm : W.cell? ⟨0, 0, none⟩ = some (.int .i64 m)) (hn : n ≤ 95325)
    (h : n = 0 ∨ ∃ b off, a = some ⟨b, off, none⟩ ∧ b < W.heap.size ∧ ∀ k, k < n → ∃ x : AskD, AskAt W b (off + k * 18) x ∧ AskOk W x ∧ AskFew x) :
    Calls Tryz.prog 3 #[.agg #[.slice a n cap]] W fun e w' => e = .returned (.bool true) ∧ Below W.heap.size W w' := by
  have h00 : 0 < W.heap.size := block_lt_of_cell hm
  have row : ∀ f, (f = 5 ∨ f = 6) → ∀ W', Below W.heap.size W W' → Calls Tryz.prog f #[.agg #[.slice a n cap]] W' fun e w' => e = .returned (.bool true) ∧ Below W'.heap.size W' w' := fun f hf W' hb => by
    rcases h with rfl | ⟨b, off, rfl, hlt, hE⟩
    · rcases hf with rfl | rfl
      · exact marked_none W' a cap
      · exact held_none W' a cap
    · rcases Nat.eq_zero_or_pos n with h0 | h0
      · subst h0
        rcases hf with rfl | rfl
        · exact marked_none W' _ cap
        · exact held_none W' _ cap
      · have hE' : ∀ k, k < n → ∃ x : AskD, AskAt W' b (off + k * 18) x ∧ AskOk W' x ∧ AskFew x := fun k hk => by
          obtain ⟨x, hx, hok, hfew⟩ := hE k hk
          exact ⟨x, hx.below hlt hb, hok.below hb, hfew⟩
        have hm' : W'.cell? ⟨0, 0, none⟩ = some (.int .i64 m) := (hb.cell (p := ⟨0, 0, none⟩) h00).trans hm
        rcases hf with rfl | rfl
        · exact marked_walk W' b off n cap m h0 hn (Nat.lt_of_lt_of_le hlt hb.size) hm' hE'
        · exact held_walk W' b off n cap m h0 hn (Nat.lt_of_lt_of_le hlt hb.size) hm' hE'
  have K0 : Hid ((W.alloc (.cells #[.slice a n cap] 24)).heap[W.heap.size]? = some (.cells #[.slice a n cap] 24 (0, 0)) ∧ Below W.heap.size W (W.alloc (.cells #[.slice a n cap] 24))) := hide ⟨heap_alloc_new _ _, (Below.refl _ _).alloc (Nat.le_refl _) _⟩
  have all : ∀ f args, (∀ W', Below W.heap.size W W' → Calls Tryz.prog f args W' fun e w' => e = .returned (.bool true) ∧ Below W'.heap.size W' w') → Hid (∀ W', Hid (W'.heap[W.heap.size]? = some (.cells #[.slice a n cap] 24 (0, 0)) ∧ Below W.heap.size W W') → Calls Tryz.prog f args W' fun e w' => e = .returned (.bool true) ∧ Hid (w'.heap[W.heap.size]? = some (.cells #[.slice a n cap] 24 (0, 0)) ∧ Below W.heap.size W w') ∧ w'.cell? ⟨W.heap.size, 0, none⟩ = some (.slice a n cap)) := fun f args hc => hide (fun W' hW => by
    refine (hc W' (unhide hW).2).mono ?_
    rintro e w' ⟨rfl, q2⟩
    have q3 : w'.heap[W.heap.size]? = some (.cells #[.slice a n cap] 24 (0, 0)) := (q2.block _ (block_lt (unhide hW).1)).trans (unhide hW).1
    exact ⟨rfl, hide ⟨q3, chain (unhide hW).2 q2 (Nat.le_refl _)⟩, by rw [cell_of_row _ _ _ _ _ _ q3]; rfl⟩)
  have A4 := all 4 #[] (fun W' _ => wakes_any W')
  have A5 := all 5 #[.agg #[.slice a n cap]] (row 5 (.inl rfl))
  have A6 := all 6 #[.agg #[.slice a n cap]] (row 6 (.inr rfl))
  clear all row h hm
  go_enter Tryz.func3, Tryz.ntmps3
  go_wp2_with fail
  refine (unhide A4 _ K0).mono ?_
  rintro e w1 ⟨rfl, k1, x1⟩
  go_wp2_with fail
  refine (unhide A5 _ k1).mono ?_
  rintro e w2 ⟨rfl, k2, x2⟩
  go_wp2_with fail
  refine (unhide A6 _ k2).mono ?_
  rintro e w3 ⟨rfl, k3, x3⟩
  go_wp2
  go_ret
  exact ⟨rfl, (unhide k3).2⟩
end Go.Proofs.YtidfbelckdlbhabGreat
namespace Go.Proofs.YtidfbelckdlbhabGreat.MatchLent
open Go.ChangeShapes Go.WideShapes Go.ChangeAt Go.RowKit Go.Joins
set_option linter.unusedVariables false
set_option maxRecDepth 100000
theorem lifted (os : Os) (started : os.Started) (H : Type) (enc : TypeId × Value → H) (F : Stop.Interp) :
    ReturnsInHanded {} Tryz.checked os 3 .any ((Rows.OpenSpec.upto Rows.matchLentSpec).pre6 enc Tryz.prog Tryz.f3 Rows.matchLentUptoRow.domain false) (((Rows.OpenSpec.upto Rows.matchLentSpec).at F).post enc Tryz.prog Tryz.f3 false true false false) := by
  refine wrap_cond_shaped (C := Tryz.checked) (s := Rows.OpenSpec.upto Rows.matchLentSpec) (k := Rows.uptoSmall) rfl own started (by kernel_rfl) Tryz.func3
    (OpenSpec.witness (enc := enc) (C := Tryz.checked) (s := Rows.OpenSpec.upto Rows.matchLentSpec) (k := Rows.uptoSmall) rfl false ⟨#[], #[.agg #[.slice none 0 0]], []⟩ 8 (by kernel_rfl) (by kernel_rfl) (by kernel_rfl)
      (x := ([.agg [.nil]], [], [])) (by kernel_rfl) rfl (by kernel_rfl)) ?_
  intro W base args ds gs before hval0 hW hk hsh
  obtain ⟨m, hm⟩ := Tryz.laysM185.s1_3 W hsh
  have hm' : W.cell? ⟨0, 0, none⟩ = some (.int .i64 m) := hm
  have hval : ∀ (j : Nat) t v, Tryz.f3.params[j]? = some t → args[j]? = some v → Value.okWide Tryz.prog W .any base t v := hval0
  have hW' := hW
  obtain ⟨p, q, hA0, hV, rfl, hfz, hnd⟩ := hW
  have hA : DataW.TrodAll enc Tryz.prog W 0 (fun _ => true) true Tryz.f3.params.toList args.toList ds p := hA0
  rw [Tryz.params3] at hA hval
  obtain ⟨v0, vs0, d0, ds0, p0, q0, hargs, rfl, rfl, h0, r0⟩ := trodAll_cons hA
  obtain ⟨rfl, rfl, rfl⟩ := trodAll_nil r0
  obtain rfl : args = #[v0] := by cases args; simp_all
  obtain ⟨rfl, rfl⟩ := trodVars_none hV
  have k0 := h0
  have lt0 : ∀ x ∈ p0, x.block < W.heap.size := by obtain ⟨m, hm⟩ := k0; exact DataW.trod_lt m _ _ _ hm
  obtain ⟨cs, rfl, hcs⟩ := okWide_struct Tryz.underlying24 (hval 0 24 v0 rfl rfl)
  obtain ⟨fuel, hf0⟩ := h0
  obtain ⟨xs, m2, _, hx, hl, hlen, hf⟩ := DataW.trod_struct Tryz.underlying24 hf0
  have hcl : cs.toList.length = 1 := by
    have := hl.trans (show Tryz.prog.cellsOf 24 = 1 by kernel_rfl)
    simpa [Value.cells] using this
  obtain ⟨u, hu⟩ : ∃ u, cs = #[u] := by
    obtain ⟨l⟩ := cs
    match l, hcl with
    | [u], _ => exact ⟨u, rfl⟩
  subst hu
  match xs, hlen with
  | [y0], _ =>
    have ht : DataW.trod enc Tryz.prog W 0 (fun _ => true) true m2 22 [u] = some y0 := by
      have h1 := hf 0 _ rfl
      have h2 : Tryz.prog.cellsOf 22 = 1 := by kernel_rfl
      simp only [Value.cells] at h1
      exact h1
    have hd : d0 = .agg [y0.1] := by
      have := congrArg Prod.fst hx
      exact this
    have hbulk : Rows.uptoBulk y0.1 ≤ 1048576 := by
      have h1 : Rows.uptoBulkAll ([d0] ++ []) ≤ 1048576 := of_decide_eq_true hk
      rw [hd] at h1
      simp only [List.append_nil, Rows.uptoBulkAll, Rows.uptoBulk] at h1
      omega
    obtain ⟨a, n, cap, rfl, hn, hE⟩ := open_asksU ht hbulk
    clear hA0 hval0
    refine (lent_law a n cap W m hm' hn hE).mono fun e W' ⟨he, bel⟩ => ?_
    subst he
    exact ⟨_, rfl, _, _, _, [], _, [], hW', trodAll_mk1 (shut_bool Tryz.underlying4 _), (trodAll_cons_mk (Below.trod laidOut (by kernel_rfl) (of_decide_eq_true (by kernel_rfl)) k0 bel lt0) trodAll_mk0), rfl, bel.frame _, fun h => by cases h⟩

theorem over : Rows.MatchLentUptoSaid :=
  OpenClaim.holds_of_cond 3 Tryz.f3 rfl rfl rfl rfl rfl rfl rfl ⟨rfl, rfl, rfl, rfl, rfl⟩ rfl rfl rfl rfl rfl (by kernel_rfl) Tryz.func3 (by kernel_rfl)
    (of_decide_eq_true (by kernel_rfl)) (by unfold Func.isWrapper; first | (rw [if_pos (by decide +kernel)]; kernel_rfl) | (rw [if_neg (by decide +kernel)]; exact ⟨rfl, rfl⟩))
    (fun os started H enc _ F => lifted os started H enc F)
end Go.Proofs.YtidfbelckdlbhabGreat.MatchLent
namespace Go.Proofs.YtidfbelckdlbhabGreat
theorem matchLent_upto : Rows.MatchLentUptoSaid := MatchLent.over
end Go.Proofs.YtidfbelckdlbhabGreat
