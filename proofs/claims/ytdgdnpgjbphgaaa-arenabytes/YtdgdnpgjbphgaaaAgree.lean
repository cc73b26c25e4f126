/- What the objects' fields hold, beside a list for each. -/
import Derived.Test.YtdgdnpgjbphgaaaHeld
namespace Go.Proofs.Ytdgdnpgjbphgaaa
open Go.ChangeShapes Go.WideShapes Go.ChangeAt Go.RowKit
set_option linter.unusedVariables false

/-- the lists hold what the fields of the objects hold -/
def Agree (w : World) (L : List (Nat × Nat × Nat)) (bs ws : List Nat) : Prop :=
  ∀ j f, j < L.length → f < fsz L j → w.cell? ⟨bs.getD j 0, f, none⟩ = some (.int .u64 (ws.getD (place L j + 1 + f) 0 : Nat)) ∧ w.frozen? ⟨bs.getD j 0, f, none⟩ = false
theorem Agree.start {w : World} {base : Nat} {L : List (Nat × Nat × Nat)} {v : Value} {bs ws : List Nat} {hs : List Bool} (h : HeldTo w base L v bs) (hb : bs.length = L.length) (hl : LaidTo L L.length ws hs) : Agree w L bs ws := by
  intro j f hj hf
  rw [hl.fields j f hj hf]
  exact h.cells j f (by omega) hf
theorem Agree.but {B : List Nat} {w w' : World} {L : List (Nat × Nat × Nat)} {bs ws : List Nat} (h : Agree w L bs ws) (hb : But B w w') (hbs : ∀ j, j < L.length → bs.getD j 0 ∉ B ∧ bs.getD j 0 < w.heap.size) : Agree w' L bs ws := by
  intro j f hj hf
  obtain ⟨h1, h2⟩ := h j f hj hf
  obtain ⟨n1, n2⟩ := hbs j hj
  exact ⟨(hb.cell (q := ⟨bs.getD j 0, f, none⟩) n2 n1).trans h1, (hb.frozen (q := ⟨bs.getD j 0, f, none⟩) n2 n1).trans h2⟩
/-- a field is written, and the list beside it -/
theorem Agree.put {w : World} {L : List (Nat × Nat × Nat)} {bs ws : List Nat} (h : Agree w L bs ws) (hbs : bs.length = L.length) (hne : ∀ i j, i < j → j < bs.length → bs.getD i 0 ≠ bs.getD j 0) (hl : place L L.length ≤ ws.length) (o f v : Nat) (ho : o < L.length) (hf : f < fsz L o) :
    Agree (w.setCell ⟨bs.getD o 0, f, none⟩ (.int .u64 (v : Int))) L bs (ws.set (place L o + 1 + f) v) := by
  have h2 := place_lt L ho
  have hwd : wd (L.getD o (0, 0, 0)) = 1 + (L.getD o (0, 0, 0)).2.1 + (L.getD o (0, 0, 0)).2.2 := rfl
  have hfz : fsz L o = (L.getD o (0, 0, 0)).2.1 + (L.getD o (0, 0, 0)).2.2 := rfl
  intro j g hj hg
  obtain ⟨k1, k2⟩ := h j g hj hg
  rw [World.frozen?_setCell]
  refine ⟨?_, k2⟩
  rw [getD_set ws _ _ _ (by omega)]
  by_cases e : place L j + 1 + g = place L o + 1 + f
  · rw [if_pos e]
    obtain ⟨rfl, rfl⟩ := place_apart L j g o f hg hf e
    exact World.cell?_setCell_same' w _ _ (by rw [k1]; rfl)
  · rw [if_neg e, World.cell?_setCell_other _ _ _ _ (fun e' => ?_), k1]
    injection e' with e1 e2
    by_cases hjo : j = o
    · subst hjo; exact e (by omega)
    · rcases Nat.lt_or_gt_of_ne hjo with hlt | hgt
      · exact hne j o hlt (by omega) e1.symm
      · exact hne o j hgt (by omega) e1
theorem hcells_at (L : List (Nat × Nat × Nat)) (bs : List Nat) (j : Nat) (hj : j < bs.length) : (hcells L bs)[j]? = some (.slice (some ⟨bs.getD j 0, 0, none⟩) (fsz L j) (fsz L j)) := by
  unfold hcells
  rw [List.getElem?_map, List.getElem?_range hj]; rfl
/-- the list of lists, as it lies -/
theorem HeldTo.shape {w : World} {base : Nat} {L : List (Nat × Nat × Nat)} {v : Value} {bs : List Nat} (h : HeldTo w base L v bs) (hp : 0 < bs.length) :
    ∃ g cap, v = .slice (some ⟨g, 0, none⟩) bs.length cap ∧ base ≤ g ∧ g < w.heap.size ∧ (∀ j, j < bs.length → g ≠ bs.getD j 0) ∧ ∀ j, j < bs.length → w.cell? ⟨g, j, none⟩ = some (.slice (some ⟨bs.getD j 0, 0, none⟩) (fsz L j) (fsz L j)) := by
  have hr := h.row
  obtain ⟨g, cap, rfl, h1, h2⟩ := hr.form hp
  refine ⟨g, cap, rfl, h1, h2, fun j hj e => h.far j hj (by rw [← e]; rfl), fun j hj => ?_⟩
  rw [hr.cellAt j (by omega), hcells_at L bs j hj]
theorem mem_getD {bs : List Nat} {x : Nat} (h : x ∈ bs) : ∃ j, j < bs.length ∧ bs.getD j 0 = x := by
  obtain ⟨j, hj, e⟩ := List.getElem_of_mem h
  exact ⟨j, hj, by rw [List.getD_eq_getElem?_getD, List.getElem?_eq_getElem hj]; exact e⟩
theorem getD_mem {bs : List Nat} {j : Nat} (h : j < bs.length) : bs.getD j 0 ∈ bs := by
  rw [List.getD_eq_getElem?_getD, List.getElem?_eq_getElem h]; exact List.getElem_mem h
theorem But.wide {B C : List Nat} {w w' : World} (h : But B w w') (hs : ∀ x ∈ B, x ∈ C) : But C w w' := ⟨h.os, h.tape, h.output, h.size, fun j hj hn => h.block j hj (fun hm => hn (hs j hm))⟩
end Go.Proofs.Ytdgdnpgjbphgaaa
