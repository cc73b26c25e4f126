/- A list of words for each object. -/
import Derived.Test.YtdgdnpgjbphgaaaWalk
import Derived.Deep.AppendLies
namespace Go.Proofs.Ytdgdnpgjbphgaaa
open Go.ChangeShapes Go.WideShapes Go.ChangeAt Go.RowKit
set_option linter.unusedVariables false
set_option maxRecDepth 100000
set_option maxHeartbeats 8000000
theorem Try.info34 : (Try.prog.info? 34).map (fun i => (i.zero, i.size, i.bytes)) = some (some (.slice none 0 0), 1, 24) := by kernel_rfl
/-- how many fields object j has -/
def fsz (L : List (Nat × Nat × Nat)) (j : Nat) : Nat := (L.getD j (0, 0, 0)).2.1 + (L.getD j (0, 0, 0)).2.2
def hcells (L : List (Nat × Nat × Nat)) (bs : List Nat) : List Value := (List.range bs.length).map fun j => .slice (some ⟨bs.getD j 0, 0, none⟩) (fsz L j) (fsz L j)
/-- a list of words for each of the first objects, each its own memory, all 0 -/
structure HeldTo (w : World) (base : Nat) (L : List (Nat × Nat × Nat)) (v : Value) (bs : List Nat) : Prop where
  row : w.ownsRow base 34 1 v bs.length (hcells L bs)
  low : ∀ j, j < bs.length → base ≤ bs.getD j 0 ∧ bs.getD j 0 < w.heap.size
  far : ∀ j, j < bs.length → v.ownBlock ≠ some (bs.getD j 0)
  ne : ∀ i j, i < j → j < bs.length → bs.getD i 0 ≠ bs.getD j 0
  cells : ∀ j f, j < bs.length → f < fsz L j → w.cell? ⟨bs.getD j 0, f, none⟩ = some (.int .u64 0) ∧ w.frozen? ⟨bs.getD j 0, f, none⟩ = false

theorem getD_push (bs : List Nat) (x j : Nat) : (bs ++ [x]).getD j 0 = if j < bs.length then bs.getD j 0 else if j = bs.length then x else 0 := by
  rw [List.getD_eq_getElem?_getD, List.getElem?_append, List.getD_eq_getElem?_getD]
  by_cases h : j < bs.length
  · rw [if_pos h, if_pos h]
  · rw [if_neg h, if_neg h]
    by_cases h2 : j = bs.length
    · subst h2; simp
    · rw [if_neg h2, List.getElem?_eq_none (by simp; omega)]; rfl
theorem hcells_push (L : List (Nat × Nat × Nat)) (bs : List Nat) (x : Nat) : hcells L (bs ++ [x]) = hcells L bs ++ [.slice (some ⟨x, 0, none⟩) (fsz L bs.length) (fsz L bs.length)] := by
  unfold hcells
  rw [List.length_append, List.length_singleton, List.range_succ, List.map_append]
  congr 1
  · apply List.map_congr_left
    intro j hj
    rw [getD_push, if_pos (List.mem_range.1 hj)]
  · rw [List.map_singleton, getD_push, if_neg (Nat.lt_irrefl _), if_pos rfl]

theorem HeldTo.next {wr : World} {base : Nat} {L : List (Nat × Nat × Nat)} {v : Value} {bs : List Nat} (h : HeldTo wr base L v bs) (hbase : base ≤ wr.heap.size) {w1 : World} {g cap : Nat}
    (hown : w1.ownsRow base 34 1 (.slice (some ⟨g, 0, none⟩) (bs.length + 1) cap) (bs.length + 1) (hcells L bs ++ [.slice (some ⟨wr.heap.size, 0, none⟩) (fsz L bs.length) (fsz L bs.length)]))
    (hgrow : ((wr.alloc (.cells (madeCells #[.int .u64 0] (fsz L bs.length)) 36)).alloc (.cells #[.slice (some ⟨wr.heap.size, 0, none⟩) (fsz L bs.length) (fsz L bs.length)] 34)).drew.grownBy w1 v.ownBlock)
    (hat : v.ownBlock = some g ∨ g = wr.heap.size + 2) :
    HeldTo w1 base L (.slice (some ⟨g, 0, none⟩) (bs.length + 1) cap) (bs ++ [wr.heap.size]) ∧ Below base wr w1 := by
  obtain ⟨X, hX⟩ : ∃ X, X = ((wr.alloc (.cells (madeCells #[.int .u64 0] (fsz L bs.length)) 36)).alloc (.cells #[.slice (some ⟨wr.heap.size, 0, none⟩) (fsz L bs.length) (fsz L bs.length)] 34)).drew := ⟨_, rfl⟩
  rw [← hX] at hgrow
  have hb : Below wr.heap.size wr X := by
    rw [hX]
    exact (((Below.refl wr.heap.size wr).alloc (Nat.le_refl _) _).alloc (by simp) _).drew
  have hs : X.heap.size = wr.heap.size + 2 := by rw [hX]; simp
  have hB1 : X.heap[wr.heap.size]? = some (.cells (madeCells #[.int .u64 0] (fsz L bs.length)) 36) := by
    rw [hX]
    have h2 : Below (wr.heap.size + 1) (wr.alloc (.cells (madeCells #[.int .u64 0] (fsz L bs.length)) 36)) ((wr.alloc (.cells (madeCells #[.int .u64 0] (fsz L bs.length)) 36)).alloc (.cells #[.slice (some ⟨wr.heap.size, 0, none⟩) (fsz L bs.length) (fsz L bs.length)] 34)).drew := ((Below.refl _ _).alloc (by simp) _).drew
    rw [h2.block wr.heap.size (by omega)]
    exact heap_alloc_new wr _
  have hvlt := h.row.lt
  have hne : ∀ k, v.ownBlock = some k → k < wr.heap.size := fun k hk => (hvlt k hk).2
  have hsz1 := hgrow.size
  refine ⟨⟨?_, ?_, ?_, ?_, ?_⟩, ?_⟩
  · rw [List.length_append, List.length_singleton, hcells_push]; exact hown
  · intro j hj
    rw [List.length_append, List.length_singleton] at hj
    rw [getD_push]
    by_cases hjl : j < bs.length
    · rw [if_pos hjl]; have := h.low j hjl; exact ⟨this.1, by omega⟩
    · rw [if_neg hjl, if_pos (by omega)]; exact ⟨hbase, by omega⟩
  · intro j hj
    rw [List.length_append, List.length_singleton] at hj
    rw [getD_push]
    show some g ≠ _
    by_cases hjl : j < bs.length
    · rw [if_pos hjl]
      have h1 := h.low j hjl
      rcases hat with hat | hat
      · rw [← hat]; exact h.far j hjl
      · intro e; injection e with e; omega
    · rw [if_neg hjl, if_pos (by omega)]
      rcases hat with hat | hat
      · intro e; injection e with e; have := hne g hat; omega
      · intro e; injection e with e; omega
  · intro i j hij hj
    rw [List.length_append, List.length_singleton] at hj
    rw [getD_push, getD_push, if_pos (by omega : i < bs.length)]
    by_cases hjl : j < bs.length
    · rw [if_pos hjl]; exact h.ne i j hij hjl
    · rw [if_neg hjl, if_pos (by omega)]; have := h.low i (by omega); omega
  · intro j f hj hf
    rw [List.length_append, List.length_singleton] at hj
    rw [getD_push]
    by_cases hjl : j < bs.length
    · rw [if_pos hjl]
      have h1 := h.low j hjl
      have h2 := h.cells j f hjl hf
      have h3 : some (bs.getD j 0) ≠ v.ownBlock := fun e => h.far j hjl e.symm
      have h4 := hgrow.cell_far ⟨bs.getD j 0, f, none⟩ (by show bs.getD j 0 < X.heap.size; omega) h3
      have h5 := hgrow.frozen_far ⟨bs.getD j 0, f, none⟩ (by show bs.getD j 0 < X.heap.size; omega) h3
      rw [h4, h5]
      refine ⟨(hb.cell (p := ⟨bs.getD j 0, f, none⟩) h1.2).trans h2.1, ?_⟩
      have h6 := hb.block (bs.getD j 0) h1.2
      unfold World.frozen?
      rw [h6]
      exact h2.2
    · rw [if_neg hjl, if_pos (by omega)]
      have hjb : j = bs.length := by omega
      subst hjb
      have h3 : some wr.heap.size ≠ v.ownBlock := fun e => by have := hne _ e.symm; omega
      have h4 := hgrow.cell_far ⟨wr.heap.size, f, none⟩ (by show wr.heap.size < X.heap.size; omega) h3
      have h5 := hgrow.frozen_far ⟨wr.heap.size, f, none⟩ (by show wr.heap.size < X.heap.size; omega) h3
      rw [h4, h5]
      simp only [World.cell?, World.frozen?, hB1]
      rw [made_at _ _ _ hf]
      simp
  · exact (hb.mono hbase).grown hgrow (by omega) (fun j hj => (hvlt j hj).1)
end Go.Proofs.Ytdgdnpgjbphgaaa
