/- a Day that came in -/
import Derived.Test.YtfebiemfmiahhaaFk
import Derived.Test.YtfebiemfmiahhaaOpen
namespace Go.Proofs.Ytfebiemfmiahhaa
open Go.ChangeShapes Go.WideShapes Go.ChangeAt Go.RowKit Go.Joins Go.Deep
set_option linter.unusedVariables false
set_option maxRecDepth 20000
theorem cells52 : Try.prog.cellsOf 52 = 6 := by kernel_rfl
/-- a list of steps, opened -/
theorem open_turns {H : Type} {enc : TypeId × Value → H} {W : World} {n : Nat} {v : Value} {y : DataW H × List MemPlace} (hf : DataW.trod enc Try.prog W 0 (fun _ => true) true n 45 [v] = some y) (hw : ∀ m ∈ DataW.weights Try.prog 45 y.1, m ≤ 140737488351232) :
    ∃ (a : Option Addr) (cap : Nat) (l : List Tu), v = .slice a l.length cap ∧ TusAt W a l ∧ l.length ≤ 9223372036854775807 := by
  rcases open_slice Try.underlying45 hf with ⟨hcs, _⟩ | ⟨a, len, cap, m, q, D, P', hcs, _, hlc, hcm, hm, hy, heach⟩
  · cases hcs
    exact ⟨none, 0, [], rfl, ⟨.inl rfl, by simp⟩, Nat.zero_le _⟩
  · cases hcs
    simp only [if_true] at hm
    by_cases h0 : len = 0
    · subst h0; exact ⟨some a, cap, [], rfl, ⟨.inl rfl, by simp⟩, Nat.zero_le _⟩
    · rw [cells52] at heach
      obtain ⟨b, off, spot⟩ := a
      have hplace : spot = none ∧ b < W.heap.size := by
        obtain ⟨cs', hc, _⟩ := heach 0 (by omega)
        obtain ⟨hl, he⟩ := cells_each hc
        have h00 := he 0 (by omega)
        rw [List.getElem?_eq_getElem (by omega : 0 < cs'.length)] at h00
        have e00 : ((⟨b, off, spot⟩ : Addr).add (0 * 6)).add 0 = ⟨b, off, spot⟩ := by simp [Addr.add]
        rw [e00] at h00
        exact ⟨World.cell?_spot h00, block_lt_of_cell h00⟩
      obtain ⟨rfl, hb⟩ := hplace
      have hx : ∀ i, ∃ z : Tu, i < len → (∀ j, j < 6 → W.cell? ⟨b, off + i * 6 + j, none⟩ = (tuC z)[j]?) ∧ TuOk W z := by
        intro i
        by_cases hi : i < len
        · obtain ⟨cs', hc, ht'⟩ := heach i (by omega)
          obtain ⟨hl, hcell⟩ := cells_each hc
          obtain ⟨c0, c1, c2, c3, c4, c5, y0, y1, y2, y3, y4, y5, q', rfl, hyi, t0, t1, t2, t3, t4, t5⟩ := open_list6 Try.underlying52 (by kernel_rfl) hl ht'
          obtain ⟨x0, e0, _, w0⟩ := DataW.trod_int Try.underlying3 t0
          obtain ⟨x1, e1, _, w1⟩ := DataW.trod_int Try.underlying3 t1
          obtain ⟨x2, e2, _, w2⟩ := DataW.trod_int Try.underlying3 t2
          obtain ⟨x4, e4, _, w4⟩ := DataW.trod_int Try.underlying29 t4
          obtain ⟨x5, e5, _, w5⟩ := DataW.trod_int Try.underlying3 t5
          have hsub : ∀ m ∈ DataW.weights Try.prog 28 y3.1, m ≤ 140737488351232 := fun k hk => by
            refine hw k ?_
            rw [hy]
            simp only [DataW.weights, Try.underlying45, List.mem_cons, List.mem_append]
            refine .inr (.inl (weightsAll_mem (d := D i) (List.mem_map.2 ⟨i, List.mem_range.2 hi, rfl⟩) k ?_))
            have hyi' : D i = .agg [y0.1, y1.1, y2.1, y3.1, y4.1, y5.1] := hyi
            rw [hyi']
            simp only [DataW.weights, Try.underlying52]
            exact DataW.weights_mem_each (j := 3) (t := 28) (d := y3.1) rfl rfl _ hk
          obtain ⟨pa, pc, pl, e3, p1, p2, p3, p4⟩ := open_places t3 hsub
          cases e0
          cases e1
          cases e2
          cases e4
          cases e5
          subst e3
          have h5 : 0 ≤ x4 := by
            have := bounds_u64 w4
            omega
          refine ⟨⟨x0, x1, x2, pa, pc, pl, x4.toNat, x5⟩, fun _ => ⟨fun j hj => ?_, p1, p3, p4, w1, p2⟩⟩
          have := hcell j hj
          rw [add_plain, add_plain] at this
          rw [this]
          unfold tuC
          rw [Int.toNat_of_nonneg h5]
        · exact ⟨⟨0, 0, 0, none, 0, [], 0, 0⟩, fun h => absurd h hi⟩
      obtain ⟨f, hfx⟩ := Classical.axiomOfChoice hx
      have hL : ((List.range len).map f).length = len := by simp
      refine ⟨some ⟨b, off, none⟩, cap, (List.range len).map f, by rw [hL], ⟨.inr ⟨b, off, rfl, hb, fun i x hx => ?_⟩, fun x hx => ?_⟩, by rw [hL]; simp only [maxLen] at hcm; omega⟩
      · have hi : i < len := by
          have := (List.getElem?_eq_some_iff.1 hx).1
          rw [hL] at this
          exact this
        rw [List.getElem?_map, List.getElem?_range hi] at hx
        obtain rfl : f i = x := by simpa using hx
        exact (hfx i hi).1
      · obtain ⟨i, hi, rfl⟩ := List.mem_map.1 hx
        exact (hfx i (List.mem_range.1 hi)).2
theorem open_one {H : Type} {enc : TypeId × Value → H} {P : Program} {w : World} {base : Nat} {spare : Nat → Bool} {held : Bool} {fuel : Nat} {t : TypeId} {f0 : Field} {cs : List Value} {y : DataW H × List MemPlace} (hs : P.underlying t = some (.struct #[f0])) (hC : P.cellsOf t = 1) (o0 : f0.offset = 0) (k0 : P.cellsOf f0.type = 1)
    (h : DataW.trod enc P w base spare held fuel t cs = some y) :
    ∃ (v0 : Value) (y0 : DataW H × List MemPlace) (n : Nat), cs = [v0] ∧ y.1 = .agg [y0.1] ∧ DataW.trod enc P w base spare held n f0.type [v0] = some y0 := by
  obtain ⟨xs, n, _, hx, hl, hlen, hf⟩ := DataW.trod_struct hs h
  match cs, hl.trans hC with
  | [v0], _ =>
    match xs, hlen with
    | [y0], _ =>
      exact ⟨v0, y0, n, rfl, by rw [hx]; rfl, by simpa [o0, k0] using hf 0 f0 rfl⟩
end Go.Proofs.Ytfebiemfmiahhaa
