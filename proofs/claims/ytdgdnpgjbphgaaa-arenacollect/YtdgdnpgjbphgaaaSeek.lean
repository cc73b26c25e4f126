/- The stack and what was seen. -/
import Derived.Test.YtdgdnpgjbphgaaaLive
import Derived.Test.YtdgdnpgjbphgaaaLay
namespace Go.Proofs.Ytdgdnpgjbphgaaa
open Go.ChangeShapes Go.WideShapes Go.ChangeAt Go.RowKit
set_option linter.unusedVariables false
set_option maxRecDepth 100000
set_option maxHeartbeats 8000000

def OwnI (w : World) (base : Nat) (v : Value) (l : List Nat) : Prop := w.ownsRow base 3 1 v l.length (icells l)
theorem own_cut {w : World} {base : Nat} {v : Value} {l : List Nat} {x : Nat} (h : OwnI w base v (l ++ [x])) : ∃ g cap, v = .slice (some ⟨g, 0, none⟩) (l.length + 1) cap ∧ base ≤ g ∧ g < w.heap.size ∧ w.cell? ⟨g, l.length, none⟩ = some (.int .i64 (x : Nat)) ∧ l.length + 1 ≤ cap ∧ cap ≤ 9223372036854775807 ∧ OwnI w base (.slice (some ⟨g, 0, none⟩) l.length cap) l := by
  have h' := h
  rcases h.2 with ⟨rfl, h0⟩ | ⟨g, cap, cur, hv, hb, hg, hn, hm, hs, ht⟩
  · simp at h0
  · subst hv
    have hlen : (l ++ [x]).length = l.length + 1 := by simp
    have hc := World.ownsRow.cellAt h' l.length (by rw [hlen]; omega)
    rw [hlen] at hn ht
    refine ⟨g, cap, by rw [hlen], hb, (Array.getElem?_eq_some_iff.1 hg).1, ?_, hn, by unfold maxLen at hm; omega, ?_⟩
    · rw [hc, icells_at _ _ (by simp)]
      simp [List.getD_eq_getElem?_getD]
    · refine ⟨by simp [icells], .inr ⟨g, cap, cur, rfl, hb, hg, by omega, hm, hs, ?_⟩⟩
      have h1 := congrArg (List.take (l.length * 1)) ht
      rw [List.take_take, show min (l.length * 1) ((l.length + 1) * 1) = l.length * 1 by omega] at h1
      rw [h1]
      simp [icells]
theorem own_shape {w : World} {base : Nat} {v : Value} {l : List Nat} (h : OwnI w base v l) : ∃ a cap, v = .slice a l.length cap ∧ cap ≤ 9223372036854775807 := by
  rcases h.2 with ⟨rfl, h0⟩ | ⟨g, cap, cur, hv, hb, hg, hn, hm, hs, ht⟩
  · exact ⟨none, 0, by rw [h0], by omega⟩
  · exact ⟨_, cap, hv, by unfold maxLen at hm; omega⟩
def seenAt (w : World) (gs n : Nat) : List Bool := (List.range n).map fun j => match w.cell? ⟨gs, j, none⟩ with | some (.bool b) => b | _ => false
def lenOf : Value → Nat
  | .slice _ n _ => n
  | _ => 0
theorem outN_same (s s' : List Bool) (m : Nat) (h : ∀ j, j < m → s.getD j false = s'.getD j false) : outN s m = outN s' m := by
  induction m with
  | zero => rfl
  | succ m ih =>
    show outN s m + _ = outN s' m + _
    rw [ih (fun j hj => h j (by omega)), h m (by omega)]
theorem outN_le (s : List Bool) (m : Nat) : outN s m ≤ m := by
  induction m with
  | zero => exact Nat.le_refl _
  | succ m ih =>
    show outN s m + _ ≤ m + 1
    split <;> omega
theorem seenAt_is {w : World} {gs n : Nat} {sn : List Bool} (h : ∀ j, j < n → w.cell? ⟨gs, j, none⟩ = some (.bool (sn.getD j false))) : outN (seenAt w gs n) n = outN sn n := by
  refine outN_same _ _ n (fun j hj => ?_)
  unfold seenAt
  rw [List.getD_eq_getElem?_getD, List.getElem?_map, List.getElem?_range hj]
  simp [h j hj]
theorem wsum_bound {L : List (Nat × Nat × Nat)} (hg : Good L) (s : List Bool) (m : Nat) (hm : m ≤ L.length) : wsum L s m ≤ 49 * m := by
  induction m with
  | zero => exact Nat.le_refl _
  | succ m ih =>
    have h1 := ih (by omega)
    obtain ⟨_, _, h3, h4⟩ := hg m (by omega)
    show wsum L s m + _ ≤ _
    unfold wd
    split <;> omega
/-- the search so far: object i's first c refs were gone through -/
structure Seek (L : List (Nat × Nat × Nat)) (E : List (List Int)) (R : List Nat) (B gs bnd : Nat) (W2 wr : World) (i c : Nat) (v : Value) (stk : List Nat) (sn : List Bool) : Prop where
  own : OwnI wr B v stk
  sl : sn.length = L.length
  cells : ∀ j, j < L.length → wr.cell? ⟨gs, j, none⟩ = some (.bool (sn.getD j false)) ∧ wr.frozen? ⟨gs, j, none⟩ = false
  stkL : ∀ j, j ∈ stk → j < L.length ∧ Live L E R j
  snL : ∀ j, sn.getD j false = true → Live L E R j
  roots : ∀ j, j ∈ R → sn.getD j false = true ∨ j ∈ stk
  closed : ∀ j k t, sn.getD j false = true → k < refsOf L j → (j = i → k < c) → edgeN E L.length j k = some t → sn.getD t false = true ∨ t ∈ stk
  len : stk.length + (refsOf L i - c) + 25 * outN sn L.length ≤ bnd
  bel : Below gs W2 wr
  size : B ≤ wr.heap.size
theorem Seek.turn {L : List (Nat × Nat × Nat)} {E : List (List Int)} {R : List Nat} {B gs bnd : Nat} {W2 wr : World} {i i' : Nat} {v : Value} {stk : List Nat} {sn : List Bool} (h : Seek L E R B gs bnd W2 wr i (refsOf L i) v stk sn) : Seek L E R B gs bnd W2 wr i' (refsOf L i') v stk sn :=
  ⟨h.own, h.sl, h.cells, h.stkL, h.snL, h.roots, fun j k t h1 h2 _ h4 => h.closed j k t h1 h2 (fun e => by subst e; exact h2) h4, by have := h.len; omega, h.bel, h.size⟩
/-- the top is taken off; it was seen -/
theorem Seek.pop {L : List (Nat × Nat × Nat)} {E : List (List Int)} {R : List Nat} {B gs bnd : Nat} {W2 wr : World} {i c : Nat} {v v' : Value} {stk : List Nat} {x : Nat} {sn : List Bool} (h : Seek L E R B gs bnd W2 wr i c v (stk ++ [x]) sn) (hs : sn.getD x false = true) (ho : OwnI wr B v' stk) : Seek L E R B gs bnd W2 wr i c v' stk sn := by
  have sub : ∀ t, sn.getD t false = true ∨ t ∈ stk ++ [x] → sn.getD t false = true ∨ t ∈ stk := fun t h => by
    rcases h with h | h
    · exact .inl h
    · rcases List.mem_append.1 h with h | h
      · exact .inr h
      · rw [List.mem_singleton] at h; subst h; exact .inl hs
  refine ⟨ho, h.sl, h.cells, fun j hj => h.stkL j (List.mem_append_left _ hj), h.snL, fun j hj => sub j (h.roots j hj), fun j k t h1 h2 h3 h4 => sub t (h.closed j k t h1 h2 h3 h4), ?_, h.bel, h.size⟩
  have := h.len
  simp at this
  omega
theorem getD_setB (l : List Bool) (q j : Nat) (hq : q < l.length) : (l.set q true).getD j false = if j = q then true else l.getD j false := by
  rw [List.getD_eq_getElem?_getD, List.getElem?_set, List.getD_eq_getElem?_getD]
  by_cases h : q = j
  · subst h; simp [hq]
  · rw [if_neg h, if_neg (fun e => h e.symm)]
/-- the top is taken off, and marked as seen -/
theorem Seek.mark {L : List (Nat × Nat × Nat)} {E : List (List Int)} {R : List Nat} {B gs bnd : Nat} {W2 wr : World} {i : Nat} {v v' : Value} {stk : List Nat} {x : Nat} {sn : List Bool} (h : Seek L E R B gs bnd W2 wr i (refsOf L i) v (stk ++ [x]) sn) (hs : sn.getD x false = false) (ho : OwnI wr B v' stk) (hg : gs < B) (hr : refsOf L x ≤ 24) (hgs : gs < W2.heap.size) :
    Seek L E R B gs bnd W2 (wr.setCell ⟨gs, x, none⟩ (.bool true)) x 0 v' stk (sn.set x true) := by
  obtain ⟨hxl, hxv⟩ := h.stkL x (by simp)
  have hxs : x < sn.length := by rw [h.sl]; exact hxl
  have sub : ∀ t, sn.getD t false = true ∨ t ∈ stk ++ [x] → (sn.set x true).getD t false = true ∨ t ∈ stk := fun t h => by
    rw [getD_setB _ _ _ hxs]
    rcases h with h | h
    · left; split <;> first | rfl | exact h
    · rcases List.mem_append.1 h with h | h
      · exact .inr h
      · rw [List.mem_singleton] at h; left; rw [if_pos h]
  have hbut : But [gs] wr (wr.setCell ⟨gs, x, none⟩ (.bool true)) := (But.refl _ _).set ⟨gs, x, none⟩ (by simp) _
  refine ⟨?_, by rw [List.length_set]; exact h.sl, fun j hj => ⟨?_, ?_⟩, fun j hj => h.stkL j (List.mem_append_left _ hj), fun j hj => ?_, fun j hj => sub j (h.roots j hj), fun j k t h1 h2 h3 h4 => ?_, ?_, h.bel.setCell (p := ⟨gs, x, none⟩) (Nat.le_refl _) _, Nat.le_trans h.size hbut.size⟩
  · exact rowbut ho hbut (fun j hj => by simp at hj; omega)
  · rw [getD_setB _ _ _ hxs]
    by_cases e : j = x
    · subst e
      rw [if_pos rfl]
      exact World.cell?_setCell_same' wr _ _ (by rw [(h.cells j hj).1]; rfl)
    · rw [if_neg e, World.cell?_setCell_other _ _ _ _ (fun e' => e (by injection e' with e1 e2; exact e2.symm))]
      exact (h.cells j hj).1
  · rw [World.frozen?_setCell]; exact (h.cells j hj).2
  · rw [getD_setB _ _ _ hxs] at hj
    by_cases e : j = x
    · subst e; exact hxv
    · rw [if_neg e] at hj; exact h.snL j hj
  · rw [getD_setB _ _ _ hxs] at h1
    by_cases e : j = x
    · exact absurd (h3 e) (by omega)
    · rw [if_neg e] at h1
      exact sub t (h.closed j k t h1 h2 (fun e => by subst e; exact h2) h4)
  · have h1 := h.len
    have h2 := outN_sub sn x hxs hs L.length hxl
    simp at h1
    omega
/-- one ref more was gone through; where it led to was pushed, or it led nowhere -/
theorem Seek.push {L : List (Nat × Nat × Nat)} {E : List (List Int)} {R : List Nat} {B gs bnd : Nat} {W2 wr w' : World} {i c : Nat} {v v' : Value} {stk : List Nat} {sn : List Bool} {t : Nat} (h : Seek L E R B gs bnd W2 wr i c v stk sn) (hc : c < refsOf L i) (hsi : sn.getD i false = true) (he : edgeN E L.length i c = some t) (ho : OwnI w' B v' (stk ++ [t])) (hb : Below B wr w') (hg : gs < B) : Seek L E R B gs bnd W2 w' i (c + 1) v' (stk ++ [t]) sn := by
  refine ⟨ho, h.sl, fun j hj => ⟨(hb.cell (p := ⟨gs, j, none⟩) hg).trans (h.cells j hj).1, ?_⟩, fun j hj => ?_, h.snL, fun j hj => (h.roots j hj).imp id (List.mem_append_left _), fun j k u h1 h2 h3 h4 => ?_, ?_, h.bel.trans (hb.mono (by omega)), Nat.le_trans h.size hb.size⟩
  · have := (h.cells j hj).2
    unfold World.frozen? at this ⊢
    rw [hb.block gs hg]; exact this
  · rcases List.mem_append.1 hj with hj | hj
    · exact h.stkL j hj
    · rw [List.mem_singleton] at hj
      subst hj
      exact ⟨edgeN_lt he, (h.snL i hsi).step ⟨c, hc, he⟩⟩
  · by_cases e : j = i ∧ k = c
    · obtain ⟨rfl, rfl⟩ := e
      rw [he] at h4
      cases h4
      exact .inr (by simp)
    · exact (h.closed j k u h1 h2 (fun e2 => by have := h3 e2; omega) h4).imp id (List.mem_append_left _)
  · have := h.len
    simp
    omega
theorem Seek.pass {L : List (Nat × Nat × Nat)} {E : List (List Int)} {R : List Nat} {B gs bnd : Nat} {W2 wr w' : World} {i c : Nat} {v : Value} {stk : List Nat} {sn : List Bool} (h : Seek L E R B gs bnd W2 wr i c v stk sn) (he : edgeN E L.length i c = none) (hb : Below wr.heap.size wr w') (hg : gs < B) : Seek L E R B gs bnd W2 w' i (c + 1) v stk sn := by
  have hgw : gs < wr.heap.size := Nat.lt_of_lt_of_le hg h.size
  refine ⟨?_, h.sl, fun j hj => ⟨(hb.cell (p := ⟨gs, j, none⟩) hgw).trans (h.cells j hj).1, ?_⟩, h.stkL, h.snL, h.roots, fun j k u h1 h2 h3 h4 => ?_, by have := h.len; omega, h.bel.trans (hb.mono (by omega)), Nat.le_trans h.size hb.size⟩
  · refine ⟨h.own.1, ?_⟩
    rcases h.own.2 with hn | ⟨g, cap, cur, rfl, hbb, hg2, rest⟩
    · exact .inl hn
    · exact .inr ⟨g, cap, cur, rfl, hbb, by rw [hb.block g (Array.getElem?_eq_some_iff.1 hg2).1]; exact hg2, rest⟩
  · have := (h.cells j hj).2
    unfold World.frozen? at this ⊢
    rw [hb.block gs hgw]; exact this
  · by_cases e : j = i ∧ k = c
    · obtain ⟨rfl, rfl⟩ := e
      rw [he] at h4
      cases h4
    · exact h.closed j k u h1 h2 (fun e2 => by have := h3 e2; omega) h4
/-- nothing is left on the stack: what was seen is what the roots lead to -/
theorem Seek.done {L : List (Nat × Nat × Nat)} {E : List (List Int)} {R : List Nat} {B gs bnd : Nat} {W2 wr : World} {i : Nat} {v : Value} {sn : List Bool} (h : Seek L E R B gs bnd W2 wr i (refsOf L i) v [] sn) (j : Nat) : sn.getD j false = true ↔ Live L E R j := by
  refine ⟨h.snL j, fun hl => hl (fun j => sn.getD j false = true) (fun j hj => ?_) (fun j t hj ⟨k, hk, he⟩ => ?_)⟩
  · rcases h.roots j hj with h1 | h1
    · exact h1
    · simp at h1
  · rcases h.closed j k t hj hk (fun e => by subst e; exact hk) he with h1 | h1
    · exact h1
    · simp at h1
end Go.Proofs.Ytdgdnpgjbphgaaa
