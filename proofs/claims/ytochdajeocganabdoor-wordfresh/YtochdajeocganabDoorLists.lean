/- The lists of a call, opened. -/
import Derived.Test.YtochdajeocganabDoorOpen
import Derived.Test.YtochdajeocganabDoorSame
import Derived.Test.YtochdajeocganabDoorPack
namespace Go.Proofs.YtochdajeocganabDoor
open Go.ChangeShapes Go.WideShapes Go.ChangeAt Go.RowKit Go.Joins Go.Deep
set_option linter.unusedVariables false

theorem Tryd.bytes5 : Tryd.prog.bytesOf 5 = 1 := by kernel_rfl
theorem Tryd.bytes45 : Tryd.prog.bytesOf 45 = 8 := by kernel_rfl

theorem open_bytes {H : Type} {enc : TypeId × Value → H} {W : World} {n : Nat} {v : Value} {y : DataW H × List MemPlace}
    (hf : DataW.trod enc Tryd.prog W 0 (fun _ => true) true n 46 [v] = some y) :
    ∃ a cap l, v = .slice a l.length cap ∧ Bytes W a l ∧ (a = none → cap = 0) ∧ Small l ∧ (l = [] ∨ ∃ elems spare, y.1 = .slice elems spare ∧ elems.length = l.length) := by
  rcases open_ints Tryd.underlying46 Tryd.underlying5 (by kernel_rfl) hf with ⟨hcs, _⟩ | ⟨x, len, cap, zs, hcs, _, hl, hm, hz, hy, hcell, hwz⟩
  · cases hcs
    exact ⟨none, 0, [], rfl, .inl rfl, fun _ => rfl, (fun i hi => by simp at hi), .inl rfl⟩
  · cases hcs
    simp only [if_true] at hz
    have hlz : len ≤ zs.length := by omega
    have hlen : ((zs.take len).map Int.toNat).length = len := by simp; omega
    have hget : ∀ i, i < len → ((((zs.take len).map Int.toNat).getD i 0 : Nat) : Int) = zs.getD i 0 ∧ ((zs.take len).map Int.toNat).getD i 0 < 256 := by
      intro i hi
      have hiz : i < zs.length := by omega
      have hb := bounds_u8 (hwz (zs[i]) (List.getElem_mem hiz))
      have e1 : ((zs.take len).map Int.toNat).getD i 0 = (zs[i]).toNat := by
        rw [List.getD_eq_getElem?_getD, List.getElem?_map, List.getElem?_take, if_pos hi, List.getElem?_eq_getElem hiz]; rfl
      have e2 : zs.getD i 0 = zs[i] := by rw [List.getD_eq_getElem?_getD, List.getElem?_eq_getElem hiz]; rfl
      rw [e1, e2]
      omega
    refine ⟨some x, cap, (zs.take len).map Int.toNat, by rw [hlen], ?_, (fun h => by cases h), ?_, ?_⟩
    · by_cases h0 : len = 0
      · left; subst h0; simp
      · right
        obtain ⟨b, off, spot⟩ := x
        have hc := hcell 0 (by omega)
        have hspot : spot = none := by simpa [Addr.add] using World.cell?_spot hc
        subst hspot
        refine ⟨b, off, rfl, ?_, ?_⟩
        · have := block_lt_of_cell hc
          simpa [add_plain] using this
        · intro i hi
          rw [hlen] at hi
          have := hcell i (by omega)
          rw [add_plain] at this
          rw [this, (hget i hi).1]
    · intro i hi
      rw [hlen] at hi
      exact (hget i hi).2
    · right
      exact ⟨_, _, by rw [hy], by rw [hlen]; simp [lits]; omega⟩

theorem open_words {H : Type} {enc : TypeId × Value → H} {W : World} {n : Nat} {v : Value} {y : DataW H × List MemPlace}
    (hf : DataW.trod enc Tryd.prog W 0 (fun _ => true) true n 47 [v] = some y) :
    ∃ a cap l, v = .slice a l.length cap ∧ Words W a l ∧ (a = none → cap = 0) ∧ WSmall l ∧ (l = [] ∨ ∃ elems spare, y.1 = .slice elems spare ∧ elems.length = l.length) := by
  rcases open_ints Tryd.underlying47 Tryd.underlying45 (by kernel_rfl) hf with ⟨hcs, _⟩ | ⟨x, len, cap, zs, hcs, _, hl, hm, hz, hy, hcell, hwz⟩
  · cases hcs
    exact ⟨none, 0, [], rfl, .inl rfl, fun _ => rfl, (fun i hi => by simp at hi), .inl rfl⟩
  · cases hcs
    simp only [if_true] at hz
    have hlz : len ≤ zs.length := by omega
    have hlen : ((zs.take len).map Int.toNat).length = len := by simp; omega
    have hget : ∀ i, i < len → ((((zs.take len).map Int.toNat).getD i 0 : Nat) : Int) = zs.getD i 0 ∧ ((zs.take len).map Int.toNat).getD i 0 < 18446744073709551616 := by
      intro i hi
      have hiz : i < zs.length := by omega
      have hb := bounds_u64 (hwz (zs[i]) (List.getElem_mem hiz))
      have e1 : ((zs.take len).map Int.toNat).getD i 0 = (zs[i]).toNat := by
        rw [List.getD_eq_getElem?_getD, List.getElem?_map, List.getElem?_take, if_pos hi, List.getElem?_eq_getElem hiz]; rfl
      have e2 : zs.getD i 0 = zs[i] := by rw [List.getD_eq_getElem?_getD, List.getElem?_eq_getElem hiz]; rfl
      rw [e1, e2]
      omega
    refine ⟨some x, cap, (zs.take len).map Int.toNat, by rw [hlen], ?_, (fun h => by cases h), ?_, ?_⟩
    · by_cases h0 : len = 0
      · left; subst h0; simp
      · right
        obtain ⟨b, off, spot⟩ := x
        have hc := hcell 0 (by omega)
        have hspot : spot = none := by simpa [Addr.add] using World.cell?_spot hc
        subst hspot
        refine ⟨b, off, rfl, ?_, ?_⟩
        · have := block_lt_of_cell hc
          simpa [add_plain] using this
        · intro i hi
          rw [hlen] at hi
          have := hcell i (by omega)
          rw [add_plain] at this
          rw [this, (hget i hi).1]
    · intro i hi
      rw [hlen] at hi
      exact (hget i hi).2
    · right
      exact ⟨_, _, by rw [hy], by rw [hlen]; simp [lits]; omega⟩

/-- the row's own bound, of what a script's call holds -/
theorem held_sized {H : Type} {P : Program} {t : TypeId} {ts : List TypeId} {d : DataW H} {ds : List (DataW H)} {m : Nat} (hsz : (DataW.weightsEach P (t :: ts) (d :: ds)).all (· ≤ reachBytes) = true) (hm : m ∈ DataW.weights P t d) : m ≤ 140737488351232 := by
  have h := List.all_eq_true.1 hsz _ (DataW.weights_mem_each (j := 0) (t := t) (d := d) rfl rfl _ hm)
  exact of_decide_eq_true h
theorem bytes_sized {H : Type} {l : List Nat} {y : DataW H} (hlen : l = [] ∨ ∃ elems spare, y = .slice elems spare ∧ elems.length = l.length) (h : ∀ m, m ∈ DataW.weights Tryd.prog 46 y → m ≤ 140737488351232) : l.length ≤ 140737488351232 := by
  rcases hlen with rfl | ⟨el, sp, he, hn⟩
  · simp
  · have := h ((el.length + sp.length) * Tryd.prog.bytesOf 5) (by rw [he]; simp [DataW.weights, Tryd.underlying46])
    rw [Tryd.bytes5] at this
    omega
theorem words_sized {H : Type} {l : List Nat} {y : DataW H} (hlen : l = [] ∨ ∃ elems spare, y = .slice elems spare ∧ elems.length = l.length) (h : ∀ m, m ∈ DataW.weights Tryd.prog 47 y → m ≤ 140737488351232) : 8 * l.length ≤ 140737488351232 := by
  rcases hlen with rfl | ⟨el, sp, he, hn⟩
  · simp
  · have := h ((el.length + sp.length) * Tryd.prog.bytesOf 45) (by rw [he]; simp [DataW.weights, Tryd.underlying47])
    rw [Tryd.bytes45] at this
    omega
end Go.Proofs.YtochdajeocganabDoor
