/- ArenaCollect holds. -/
import Derived.Test.YtdgdnpgjbphgaaaCollect
import Derived.Test.YtdgdnpgjbphgaaaOpen
namespace Go.Proofs.Ytdgdnpgjbphgaaa
open Go.ChangeShapes Go.WideShapes Go.ChangeAt Go.RowKit Go.Joins Go.Deep
set_option linter.unusedVariables false
set_option maxRecDepth 100000

theorem Try.bytes3 : Try.prog.bytesOf 3 = 8 := by kernel_rfl
theorem Try.cells3 : Try.prog.cellsOf 3 = 1 := by kernel_rfl
theorem Try.cells30 : Try.prog.cellsOf 30 = 1 := by kernel_rfl
/-- a list of numbers, opened -/
theorem open_nums {H : Type} {enc : TypeId × Value → H} {W : World} {n : Nat} {v : Value} {y : DataW H × List MemPlace} (hf : DataW.trod enc Try.prog W 0 (fun _ => true) true n 30 [v] = some y) :
    ∃ (a : Option Addr) (cap : Nat) (l : List Int), v = .slice a l.length cap ∧ Nums W a l ∧ (l = [] ∨ ∃ elems spare, y.1 = .slice elems spare ∧ elems.length = l.length) := by
  rcases open_slice Try.underlying30 hf with ⟨hcs, _⟩ | ⟨a, len, cap, m, q, D, Pl, hcs, _, hlc, _, hm, hy, heach⟩
  · cases hcs
    exact ⟨_, 0, [], rfl, .inl rfl, .inl rfl⟩
  · cases hcs
    simp only [if_true] at hm
    by_cases h0 : len = 0
    · subst h0; exact ⟨some a, cap, [], rfl, .inl rfl, .inl rfl⟩
    · rw [Try.cells3] at heach
      obtain ⟨b, off, spot⟩ := a
      have hplace : spot = none ∧ b < W.heap.size := by
        obtain ⟨cs', hc, _⟩ := heach 0 (by omega)
        obtain ⟨hl, he⟩ := cells_each hc
        have h00 := he 0 (by omega)
        rw [List.getElem?_eq_getElem (by omega : 0 < cs'.length)] at h00
        have e00 : ((⟨b, off, spot⟩ : Addr).add (0 * 1)).add 0 = ⟨b, off, spot⟩ := by simp [Addr.add]
        rw [e00] at h00
        exact ⟨World.cell?_spot h00, block_lt_of_cell h00⟩
      obtain ⟨rfl, hb⟩ := hplace
      have hx : ∀ i, ∃ z : Int, i < len → W.cell? ⟨b, off + i, none⟩ = some (.int .i64 z) := by
        intro i
        by_cases hi : i < len
        · obtain ⟨cs', hc, ht'⟩ := heach i (by omega)
          obtain ⟨hl, hcell⟩ := cells_each hc
          have hj := hcell 0 (by omega)
          rw [add_plain, add_plain, Nat.mul_one, Nat.add_zero] at hj
          match cs', hl with
          | [c], _ =>
            obtain ⟨x0, e0, _, w0⟩ := DataW.trod_int Try.underlying3 ht'
            cases e0
            exact ⟨x0, fun _ => hj⟩
        · exact ⟨0, fun h => absurd h hi⟩
      obtain ⟨f, hfx⟩ := Classical.axiomOfChoice hx
      have hL : ((List.range len).map f).length = len := by simp
      refine ⟨some ⟨b, off, none⟩, cap, (List.range len).map f, by rw [hL], .inr ⟨b, off, rfl, hb, fun i hi => ?_⟩, .inr ⟨_, _, by rw [hy], by simp⟩⟩
      rw [hL] at hi
      have hg : ((List.range len).map f).getD i 0 = f i := by
        rw [List.getD_eq_getElem?_getD, List.getElem?_map, List.getElem?_range hi]; rfl
      rw [hg]
      exact hfx i hi
/-- a list of such lists, opened -/
theorem open_rows {H : Type} {enc : TypeId × Value → H} {W : World} {n : Nat} {v : Value} {y : DataW H × List MemPlace} (hf : DataW.trod enc Try.prog W 0 (fun _ => true) true n 76 [v] = some y) :
    ∃ (a : Option Addr) (cap : Nat) (E : List (List Int)), v = .slice a E.length cap ∧ NumRows W a E := by
  rcases open_slice Try.underlying76 hf with ⟨hcs, _⟩ | ⟨a, len, cap, m, q, D, Pl, hcs, _, hlc, _, hm, hy, heach⟩
  · cases hcs
    exact ⟨_, 0, [], rfl, .inl rfl⟩
  · cases hcs
    simp only [if_true] at hm
    by_cases h0 : len = 0
    · subst h0; exact ⟨some a, cap, [], rfl, .inl rfl⟩
    · rw [Try.cells30] at heach
      obtain ⟨b, off, spot⟩ := a
      have hplace : spot = none ∧ b < W.heap.size := by
        obtain ⟨cs', hc, _⟩ := heach 0 (by omega)
        obtain ⟨hl, he⟩ := cells_each hc
        have h00 := he 0 (by omega)
        rw [List.getElem?_eq_getElem (by omega : 0 < cs'.length)] at h00
        have e00 : ((⟨b, off, spot⟩ : Addr).add (0 * 1)).add 0 = ⟨b, off, spot⟩ := by simp [Addr.add]
        rw [e00] at h00
        exact ⟨World.cell?_spot h00, block_lt_of_cell h00⟩
      obtain ⟨rfl, hb⟩ := hplace
      have hx : ∀ i, ∃ z : Option Addr × Nat × List Int, i < len → W.cell? ⟨b, off + i, none⟩ = some (.slice z.1 z.2.2.length z.2.1) ∧ Nums W z.1 z.2.2 := by
        intro i
        by_cases hi : i < len
        · obtain ⟨cs', hc, ht'⟩ := heach i (by omega)
          obtain ⟨hl, hcell⟩ := cells_each hc
          have hj := hcell 0 (by omega)
          rw [add_plain, add_plain, Nat.mul_one, Nat.add_zero] at hj
          match cs', hl with
          | [c], _ =>
            obtain ⟨a0, c0, l0, rfl, hN, _⟩ := open_nums ht'
            exact ⟨(a0, c0, l0), fun _ => ⟨hj, hN⟩⟩
        · exact ⟨(none, 0, []), fun h => absurd h hi⟩
      obtain ⟨f, hfx⟩ := Classical.axiomOfChoice hx
      have hL : ((List.range len).map fun i => (f i).2.2).length = len := by simp
      refine ⟨some ⟨b, off, none⟩, cap, (List.range len).map fun i => (f i).2.2, by rw [hL], .inr ⟨b, off, rfl, hb, fun i hi => ?_⟩⟩
      rw [hL] at hi
      have hg : ((List.range len).map fun i => (f i).2.2).getD i [] = (f i).2.2 := by
        rw [List.getD_eq_getElem?_getD, List.getElem?_map, List.getElem?_range hi]; rfl
      rw [hg]
      exact ⟨(f i).1, (f i).2.1, (hfx i hi).1, (hfx i hi).2⟩
/-- the row's own bound on a list of numbers -/
theorem nums_sized {H : Type} {l : List Int} {y : DataW H} (hlen : l = [] ∨ ∃ elems spare, y = .slice elems spare ∧ elems.length = l.length) (h : ∀ m, m ∈ DataW.weights Try.prog 30 y → m ≤ 140737488351232) : l.length ≤ 17592186044416 := by
  rcases hlen with rfl | ⟨el, sp, he, hn⟩
  · simp
  · have := h ((el.length + sp.length) * Try.prog.bytesOf 3) (by rw [he]; simp [DataW.weights, Try.underlying30])
    rw [Try.bytes3] at this
    omega
end Go.Proofs.Ytdgdnpgjbphgaaa
namespace Go.Proofs.Ytdgdnpgjbphgaaa.ArenaCollect
open Go.ChangeShapes Go.WideShapes Go.ChangeAt Go.RowKit Go.Joins Go.Deep
set_option linter.unusedVariables false
set_option maxRecDepth 100000

theorem lifted (os : Os) (started : os.Started) (H : Type) (enc : TypeId × Value → H) :
    ReturnsInHanded {} Try.checked os 7 .any (Rows.arenaCollectSpec.pre6 enc Try.prog Try.f7 Rows.arenaCollectRow.domain false) (Rows.arenaCollectSpec.post enc Try.prog Try.f7 false true false false) := by
  refine returnsInHanded_of_change_sized (C := Try.checked) own started (by kernel_rfl) Try.func7
    (ChangeSpec.witness6 (enc := enc) (C := Try.checked) false ⟨#[], #[.agg #[.slice none 0 0, .slice none 0 0, .slice none 0 0]], []⟩ 8 (by kernel_rfl) (by kernel_rfl) (by kernel_rfl) (by kernel_rfl)) ?_
  intro W base args ds gs before hval0 hW hcnd hsz0 _
  have hval : ∀ (j : Nat) t v, Try.f7.params[j]? = some t → args[j]? = some v → Value.okWide Try.prog W .any base t v := hval0
  have hsz : (DataW.weightsEach Try.prog (Try.f7.params.toList ++ Rows.arenaCollectSpec.plain.varTypes Try.prog) (ds ++ gs)).all (· ≤ reachBytes) = true := hsz0
  have hW' := hW
  obtain ⟨p, q, hA0, hV, rfl, hfz, hnd⟩ := hW
  have hA : DataW.TrodAll enc Try.prog W 0 (fun _ => true) true Try.f7.params.toList args.toList ds p := hA0
  rw [Try.params7] at hA hval hsz
  obtain ⟨v0, vs0, d0, ds0, p0, q0, hargs, rfl, rfl, h0, r0⟩ := trodAll_cons hA
  obtain ⟨rfl, rfl, rfl⟩ := trodAll_nil r0
  obtain rfl : args = #[v0] := by cases args; simp_all
  obtain ⟨rfl, rfl⟩ := trodVars_none hV
  have k0 := h0
  have lt0 : ∀ x ∈ p0, x.block < W.heap.size := by obtain ⟨m, hm⟩ := k0; exact DataW.trod_lt m _ _ _ hm
  obtain ⟨c0, c1, c2, y0, y1, y2, m, rfl, hd, _, hy0, hy1, hy2⟩ := open_agg3 Try.underlying78 (by kernel_rfl) (by kernel_rfl) (hval 0 78 v0 rfl rfl) h0
  subst hd
  obtain ⟨aS, cS, S, rfl, hl0, hS⟩ := open_threes Try.underlying22 Try.underlying28 (by kernel_rfl) (by kernel_rfl) Try.underlying3 Try.underlying3 Try.underlying3 hy0
  obtain ⟨aE, cE, E, rfl, hE⟩ := open_rows hy1
  obtain ⟨aR, cR, R0, rfl, hR, hl2⟩ := open_nums hy2
  have n0 := threes_sized Try.underlying22 Try.bytes28 hl0 (fun m hm => held_sized hsz (by simp only [DataW.weights, Try.underlying78]; exact DataW.weights_mem_each (j := 0) (t := 22) (d := y0.1) rfl rfl _ hm))
  have n2 := nums_sized hl2 (fun m hm => held_sized hsz (by simp only [DataW.weights, Try.underlying78]; exact DataW.weights_mem_each (j := 2) (t := 30) (d := y2.1) rfl rfl _ hm))
  have hS' : Shapes W aS S := by
    rcases hS with h | ⟨b, off, e, hb, h⟩
    · exact .inl h
    · exact .inr ⟨b, off, e, hb, fun i hi => ⟨(h i hi).1, (h i hi).2.1, (h i hi).2.2.1⟩⟩
  clear hA0 hval0 hsz0 hS
  refine (collect_law aS cS aE cE aR cR S E R0 W hS' hE hR n0 n2).mono fun e W' ⟨he, bel⟩ => ?_
  subst he
  exact ⟨_, rfl, _, _, _, [], _, [], hW', trodAll_mk1 (shut_bool Try.underlying4 _), (trodAll_cons_mk (Below.trod laidOut (by kernel_rfl) (of_decide_eq_true (by kernel_rfl)) k0 bel lt0) trodAll_mk0), rfl, bel.frame _, fun h => by cases h⟩

theorem over : Rows.arenaCollectRow.holds Try.pinned (OpenSpec.ofChange Rows.arenaCollectSpec) :=
  OpenClaim.holds_of_wide 7 Try.f7 rfl rfl rfl rfl rfl rfl rfl ⟨rfl, rfl, rfl, rfl, rfl⟩ rfl rfl rfl rfl rfl (by kernel_rfl) Try.func7 (by kernel_rfl)
    (of_decide_eq_true (by kernel_rfl)) (by unfold Func.isWrapper; first | (rw [if_pos (by decide +kernel)]; kernel_rfl) | (rw [if_neg (by decide +kernel)]; exact ⟨rfl, rfl⟩))
    (fun os started H enc _ => lifted os started H enc)
end Go.Proofs.Ytdgdnpgjbphgaaa.ArenaCollect
namespace Go.Proofs.Ytdgdnpgjbphgaaa
theorem arenaCollect_holds : Rows.ArenaCollectSaid := ArenaCollect.over
end Go.Proofs.Ytdgdnpgjbphgaaa
