/- ArenaWalk holds. -/
import Derived.Test.YtdgdnpgjbphgaaaWalk
import Derived.Test.YtdgdnpgjbphgaaaOpen
namespace Go.Proofs.Ytdgdnpgjbphgaaa
open Go.ChangeShapes Go.WideShapes Go.ChangeAt Go.RowKit Go.Joins Go.Deep
set_option linter.unusedVariables false

theorem u64_wf {x : Int} (h : (Lit.int .u64 x).wf = true) : 0 ≤ x ∧ x < 18446744073709551616 := by
  have := bounds_u64 h
  omega
/-- a memory's two lists, opened -/
theorem open_memory {H : Type} {enc : TypeId × Value → H} {W : World} {m : Nat} {c0 c1 : Value} {y0 y1 : DataW H × List MemPlace}
    (h0 : DataW.trod enc Try.prog W 0 (fun _ => true) true m 22 [c0] = some y0) (h1 : DataW.trod enc Try.prog W 0 (fun _ => true) true m 23 [c1] = some y1)
    (b0 : ∀ m, m ∈ DataW.weights Try.prog 22 y0.1 → m ≤ 140737488351232) (b1 : ∀ m, m ∈ DataW.weights Try.prog 23 y1.1 → m ≤ 140737488351232) :
    ∃ (aS : Option Addr) (cS : Nat) (aW : Option Addr) (cW : Nat) (S : List (Int × Int × Int)) (V : List (Int × Int × Nat)), c0 = .slice aS S.length cS ∧ c1 = .slice aW V.length cW ∧ Shapes W aS S ∧ Writes W aW V ∧ S.length ≤ 140737488355328 ∧ V.length ≤ 140737488355328 := by
  obtain ⟨aS, cS, S, rfl, hl0, hS⟩ := open_threes Try.underlying22 Try.underlying28 (by kernel_rfl) (by kernel_rfl) Try.underlying3 Try.underlying3 Try.underlying3 h0
  obtain ⟨aW, cW, V, rfl, hl1, hV⟩ := open_threes Try.underlying23 Try.underlying38 (by kernel_rfl) (by kernel_rfl) Try.underlying3 Try.underlying3 Try.underlying36 h1
  have n0 := threes_sized Try.underlying22 Try.bytes28 hl0 b0
  have n1 := threes_sized Try.underlying23 Try.bytes38 hl1 b1
  have hm : (V.map fun s => (s.1, s.2.1, s.2.2.toNat)).length = V.length := by simp
  refine ⟨aS, cS, aW, cW, S, V.map fun s => (s.1, s.2.1, s.2.2.toNat), rfl, by rw [hm], ?_, ?_, n0, by rw [hm]; exact n1⟩
  · rcases hS with h | ⟨b, off, e, hb, h⟩
    · exact .inl h
    · exact .inr ⟨b, off, e, hb, fun i hi => ⟨(h i hi).1, (h i hi).2.1, (h i hi).2.2.1⟩⟩
  · rcases hV with h | ⟨b, off, e, hb, h⟩
    · exact .inl (by rw [h]; rfl)
    · refine .inr ⟨b, off, e, hb, fun i hi => ?_⟩
      rw [hm] at hi
      have hg : (V.map fun s => (s.1, s.2.1, s.2.2.toNat)).getD i (0, 0, 0) = ((V.getD i (0, 0, 0)).1, (V.getD i (0, 0, 0)).2.1, (V.getD i (0, 0, 0)).2.2.toNat) := by
        rw [List.getD_eq_getElem?_getD, List.getElem?_map, List.getD_eq_getElem?_getD, List.getElem?_eq_getElem hi]; rfl
      rw [hg]
      obtain ⟨q0, q1, q2, q3⟩ := h i hi
      have hw := u64_wf q3
      exact ⟨q0, q1, by rw [Int.toNat_of_nonneg hw.1]; exact q2, by dsimp only; omega⟩
end Go.Proofs.Ytdgdnpgjbphgaaa
namespace Go.Proofs.Ytdgdnpgjbphgaaa.ArenaWalk
open Go.ChangeShapes Go.WideShapes Go.ChangeAt Go.RowKit Go.Joins Go.Deep
set_option linter.unusedVariables false
set_option maxRecDepth 100000

theorem lifted (os : Os) (started : os.Started) (H : Type) (enc : TypeId × Value → H) :
    ReturnsInHanded {} Try.checked os 4 .any (Rows.arenaWalkSpec.pre6 enc Try.prog Try.f4 Rows.arenaWalkRow.domain false) (Rows.arenaWalkSpec.post enc Try.prog Try.f4 false true false false) := by
  refine returnsInHanded_of_change_sized (C := Try.checked) own started (by kernel_rfl) Try.func4
    (ChangeSpec.witness6 (enc := enc) (C := Try.checked) false ⟨#[], #[.agg #[.slice none 0 0, .slice none 0 0]], []⟩ 8 (by kernel_rfl) (by kernel_rfl) (by kernel_rfl) (by kernel_rfl)) ?_
  intro W base args ds gs before hval0 hW hcnd hsz0 _
  have hval : ∀ (j : Nat) t v, Try.f4.params[j]? = some t → args[j]? = some v → Value.okWide Try.prog W .any base t v := hval0
  have hsz : (DataW.weightsEach Try.prog (Try.f4.params.toList ++ Rows.arenaWalkSpec.plain.varTypes Try.prog) (ds ++ gs)).all (· ≤ reachBytes) = true := hsz0
  have hW' := hW
  obtain ⟨p, q, hA0, hV, rfl, hfz, hnd⟩ := hW
  have hA : DataW.TrodAll enc Try.prog W 0 (fun _ => true) true Try.f4.params.toList args.toList ds p := hA0
  rw [Try.params4] at hA hval hsz
  obtain ⟨v0, vs0, d0, ds0, p0, q0, hargs, rfl, rfl, h0, r0⟩ := trodAll_cons hA
  obtain ⟨rfl, rfl, rfl⟩ := trodAll_nil r0
  obtain rfl : args = #[v0] := by cases args; simp_all
  obtain ⟨rfl, rfl⟩ := trodVars_none hV
  have k0 := h0
  have lt0 : ∀ x ∈ p0, x.block < W.heap.size := by obtain ⟨m, hm⟩ := k0; exact DataW.trod_lt m _ _ _ hm
  obtain ⟨c0, c1, y0, y1, m, rfl, hd, _, hy0, hy1⟩ := open_agg2 Try.underlying25 (by kernel_rfl) (by kernel_rfl) (hval 0 25 v0 rfl rfl) h0
  subst hd
  obtain ⟨aS, cS, aW, cW, S, V, rfl, rfl, hS, hV2, n0, n1⟩ := open_memory hy0 hy1
    (fun m hm => held_sized hsz (by simp only [DataW.weights, Try.underlying25]; exact DataW.weights_mem_each (j := 0) (t := 22) (d := y0.1) rfl rfl _ hm))
    (fun m hm => held_sized hsz (by simp only [DataW.weights, Try.underlying25]; exact DataW.weights_mem_each (j := 1) (t := 23) (d := y1.1) rfl rfl _ hm))
  clear hA0 hval0 hsz0
  refine (walk_law aS cS aW cW S V W hS hV2 n0 n1).mono fun e W' ⟨he, bel⟩ => ?_
  subst he
  exact ⟨_, rfl, _, _, _, [], _, [], hW', trodAll_mk1 (shut_bool Try.underlying4 _), (trodAll_cons_mk (Below.trod laidOut (by kernel_rfl) (of_decide_eq_true (by kernel_rfl)) k0 bel lt0) trodAll_mk0), rfl, bel.frame _, fun h => by cases h⟩

theorem over : Rows.arenaWalkRow.holds Try.pinned (OpenSpec.ofChange Rows.arenaWalkSpec) :=
  OpenClaim.holds_of_wide 4 Try.f4 rfl rfl rfl rfl rfl rfl rfl ⟨rfl, rfl, rfl, rfl, rfl⟩ rfl rfl rfl rfl rfl (by kernel_rfl) Try.func4 (by kernel_rfl)
    (of_decide_eq_true (by kernel_rfl)) (by unfold Func.isWrapper; first | (rw [if_pos (by decide +kernel)]; kernel_rfl) | (rw [if_neg (by decide +kernel)]; exact ⟨rfl, rfl⟩))
    (fun os started H enc _ => lifted os started H enc)
end Go.Proofs.Ytdgdnpgjbphgaaa.ArenaWalk
namespace Go.Proofs.Ytdgdnpgjbphgaaa
theorem arenaWalk_holds : Rows.ArenaWalkSaid := ArenaWalk.over
end Go.Proofs.Ytdgdnpgjbphgaaa
