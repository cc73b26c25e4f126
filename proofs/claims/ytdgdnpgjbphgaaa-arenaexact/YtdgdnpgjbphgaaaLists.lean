/- The shapes that the laws take; a write into an object. -/
import Derived.Test.YtdgdnpgjbphgaaaImage
namespace Go.Proofs.Ytdgdnpgjbphgaaa
open Go.ChangeShapes Go.WideShapes Go.ChangeAt Go.RowKit
set_option linter.unusedVariables false
set_option maxRecDepth 100000
set_option maxHeartbeats 1000000

/-- a list of shapes that is handed in -/
def Shapes (w : World) (a : Option Addr) (L : List (Int × Int × Int)) : Prop := L = [] ∨ ∃ b off, a = some ⟨b, off, none⟩ ∧ b < w.heap.size ∧ ShapesAt w b off L
theorem take_any (a : Option Addr) (cap : Nat) (w : World) (L : List (Int × Int × Int)) (hl : L.length ≤ 140737488355328) (hL : Shapes w a L) :
    Calls Try.prog 9 #[.slice a L.length cap] w fun e w' => ∃ v, e = .returned v ∧ OwnS w' w.heap.size v ((L.take 2000).map fitL) ∧ Below w.heap.size w w' := by
  rcases hL with rfl | ⟨b, off, rfl, hb, hL⟩
  · refine (take_none a cap w).mono ?_
    rintro e w' ⟨rfl, rfl⟩
    exact ⟨_, rfl, World.ownsRow_nil _ _ _ _, Below.refl _ _⟩
  · exact take_some b off cap w L hl hb hL

theorem scells_at (L : List (Int × Int × Int)) (i : Nat) (h : i < L.length) : (scells L)[i * 3]? = some (.int .i64 (L.getD i (0, 0, 0)).1) ∧ (scells L)[i * 3 + 1]? = some (.int .i64 (L.getD i (0, 0, 0)).2.1) ∧ (scells L)[i * 3 + 2]? = some (.int .i64 (L.getD i (0, 0, 0)).2.2) := by
  induction L generalizing i with
  | nil => simp at h
  | cons s L ih =>
    cases i with
    | zero => exact ⟨rfl, rfl, rfl⟩
    | succ i =>
      have h1 := ih i (by simpa using h)
      have e : scells (s :: L) = [.int .i64 s.1, .int .i64 s.2.1, .int .i64 s.2.2] ++ scells L := by unfold scells; rw [List.flatMap_cons]
      have hd : (s :: L).getD (i + 1) (0, 0, 0) = L.getD i (0, 0, 0) := by simp
      rw [hd, e]
      refine ⟨?_, ?_, ?_⟩
      · rw [List.getElem?_append_right (by simp; omega)]; simp only [List.length_cons, List.length_nil]; rw [show (i + 1) * 3 - (0 + 1 + 1 + 1) = i * 3 by omega]; exact h1.1
      · rw [List.getElem?_append_right (by simp; omega)]; simp only [List.length_cons, List.length_nil]; rw [show (i + 1) * 3 + 1 - (0 + 1 + 1 + 1) = i * 3 + 1 by omega]; exact h1.2.1
      · rw [List.getElem?_append_right (by simp; omega)]; simp only [List.length_cons, List.length_nil]; rw [show (i + 1) * 3 + 2 - (0 + 1 + 1 + 1) = i * 3 + 2 by omega]; exact h1.2.2
theorem OwnS.shape {w : World} {base : Nat} {v : Value} {L : List (Int × Int × Int)} (h : OwnS w base v L) (hp : 0 < L.length) :
    ∃ g cap, v = .slice (some ⟨g, 0, none⟩) L.length cap ∧ base ≤ g ∧ g < w.heap.size ∧ ShapesAt w g 0 L := by
  rcases h.2 with ⟨rfl, h0⟩ | ⟨g, cap, cur, rfl, hb, hg, hn, hm, hs, ht⟩
  · omega
  · refine ⟨g, cap, rfl, hb, (Array.getElem?_eq_some_iff.1 hg).1, fun i hi => ?_⟩
    obtain ⟨q0, q1, q2⟩ := scells_at L i hi
    rw [Nat.zero_add]
    refine ⟨?_, ?_, ?_⟩
    · rw [← q0]; exact World.ownsRow.cellAt (xs := scells L) h _ (by omega)
    · rw [← q1]; exact World.ownsRow.cellAt (xs := scells L) h _ (by omega)
    · rw [← q2]; exact World.ownsRow.cellAt (xs := scells L) h _ (by omega)
theorem icells_at (l : List Nat) (j : Nat) (h : j < l.length) : (icells l)[j]? = some (.int .i64 (l.getD j 0 : Nat)) := by
  unfold icells
  rw [List.getElem?_map, List.getD_eq_getElem?_getD, List.getElem?_eq_getElem h]; rfl
theorem places_at (L : List (Nat × Nat × Nat)) (n j : Nat) (h : j < n) : (places L n).getD j 0 = place L j := by
  unfold places
  rw [List.getD_eq_getElem?_getD, List.getElem?_map, List.getElem?_range h]; rfl
/-- the places of the objects, as a list -/
theorem places_shape {w : World} {base : Nat} {v : Value} {L : List (Nat × Nat × Nat)} (h : w.ownsRow base 3 1 v L.length (icells (places L L.length))) (hp : 0 < L.length) :
    ∃ g cap, v = .slice (some ⟨g, 0, none⟩) L.length cap ∧ base ≤ g ∧ g < w.heap.size ∧ ∀ j, j < L.length → w.cell? ⟨g, j, none⟩ = some (.int .i64 (place L j : Nat)) := by
  rcases h.2 with ⟨rfl, h0⟩ | ⟨g, cap, cur, rfl, hb, hg, hn, hm, hs, ht⟩
  · omega
  · refine ⟨g, cap, rfl, hb, (Array.getElem?_eq_some_iff.1 hg).1, fun j hj => ?_⟩
    rw [h.cellAt j (by omega), icells_at _ _ (by simp [places]; exact hj), places_at L _ j hj]

def fitN (s : Int × Int × Int) : Nat × Nat × Nat := ((1 + s.1 % 255).toNat, (s.2.1 % 24).toNat, (s.2.2 % 24).toNat)
/-- the shapes that a law takes, and one of its own behind them -/
def taken (S : List (Int × Int × Int)) (z : Nat × Nat × Nat) : List (Nat × Nat × Nat) := (S.take 2000).map fitN ++ [z]
theorem taken_length (S : List (Int × Int × Int)) (z : Nat × Nat × Nat) : (taken S z).length = min 2000 S.length + 1 := by simp [taken]
theorem taken_ints (S : List (Int × Int × Int)) (z : Nat × Nat × Nat) : ints (taken S z) = (S.take 2000).map fitL ++ [((z.1 : Int), (z.2.1 : Int), (z.2.2 : Int))] := by
  unfold ints taken
  rw [List.map_append, List.map_map]
  congr 1
  apply List.map_congr_left
  intro s _
  unfold fitN fitL
  simp only [Function.comp]
  have h1 := Int.emod_nonneg s.1 (show (255 : Int) ≠ 0 by decide)
  have h2 := Int.emod_nonneg s.2.1 (show (24 : Int) ≠ 0 by decide)
  have h3 := Int.emod_nonneg s.2.2 (show (24 : Int) ≠ 0 by decide)
  rw [Int.toNat_of_nonneg (by omega), Int.toNat_of_nonneg h2, Int.toNat_of_nonneg h3]
theorem taken_good (S : List (Int × Int × Int)) (z : Nat × Nat × Nat) (hz : 1 ≤ z.1 ∧ z.1 ≤ 255 ∧ z.2.1 ≤ 24 ∧ z.2.2 ≤ 24) : Good (taken S z) := by
  have h : ∀ s ∈ taken S z, 1 ≤ s.1 ∧ s.1 ≤ 255 ∧ s.2.1 ≤ 24 ∧ s.2.2 ≤ 24 := by
    intro s hs
    unfold taken at hs
    rcases List.mem_append.1 hs with h | h
    · obtain ⟨t, _, rfl⟩ := List.mem_map.1 h
      unfold fitN
      dsimp only
      omega
    · rw [List.mem_singleton] at h; subst h; exact hz
  intro i hi
  have : (taken S z).getD i (0, 0, 0) ∈ taken S z := by
    rw [List.getD_eq_getElem?_getD, List.getElem?_eq_getElem hi]; exact List.getElem_mem hi
  exact h _ this

/-- a Set at an object: the objects are still the same -/
theorem set_any {p bw bh : Nat} {ws : List Nat} {hs : List Bool} {L : List (Nat × Nat × Nat)} (hg : Good L) (o : Nat) (ho : o < L.length) (f : Int) (v : Nat) (hv : v < 18446744073709551616) (w : World) (h : Ar w p bw bh ws hs (place L L.length)) (hl : ws.length = place L L.length) (hk : Kept L ws hs) :
    Calls Try.prog 12 #[.pointer (some ⟨p, 0, none⟩), .int .i64 (place L o : Nat), .int .i64 f, .int .u64 v] w fun e w' => ∃ (c : Nat) (ws' : List Nat), e = .returned (.int .i64 c) ∧ Ar w' p bw bh ws' hs (place L L.length) ∧ ws'.length = place L L.length ∧ Kept L ws' hs ∧ But [bw] w w' := by
  have hobj := hk.obj hg o ho
  have hall := hk.all hg
  by_cases hf : 0 ≤ f ∧ f < ((L.getD o (0, 0, 0)).2.1 + (L.getD o (0, 0, 0)).2.2 : Nat)
  · obtain ⟨j, rfl⟩ := Int.eq_ofNat_of_zero_le hf.1
    refine (set_yes (place L o) j v w hv h hall (by rw [hobj]) (by rw [hobj]; dsimp only; omega)).mono ?_
    rintro e w' ⟨rfl, hA, hB⟩
    exact ⟨0, _, rfl, hA, by rw [List.length_set]; exact hl, hk.put o j v ho (by omega) (by omega), hB⟩
  · refine (set_no (place L o : Nat) f v w h hall 24 ?_ (by decide)).mono ?_
    · unfold fieldErr; rw [hobj]; dsimp only; rw [if_neg (by decide), if_neg hf]
    · rintro e w' ⟨rfl, hb⟩
      exact ⟨24, ws, rfl, h.below hb, hl, hk, But.of_below hb⟩
end Go.Proofs.Ytdgdnpgjbphgaaa
