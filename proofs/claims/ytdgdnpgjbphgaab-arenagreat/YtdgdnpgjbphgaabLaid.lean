/- A graph laid into a block. -/
import Derived.Test.YtdgdnpgjbphgaabGraph
import Derived.Test.YtdgdnpgjbphgaabMove
namespace Go.Proofs.Ytdgdnpgjbphgaab
open Go.ChangeShapes Go.WideShapes Go.ChangeAt Go.RowKit
set_option linter.unusedVariables false
set_option maxRecDepth 100000
set_option maxHeartbeats 8000000

/-- how many refs, how many fields an object has -/
def refsOf (L : List (Nat × Nat × Nat)) (i : Nat) : Nat := (L.getD i (0, 0, 0)).2.1
def fldsOf (L : List (Nat × Nat × Nat)) (i : Nat) : Nat := (L.getD i (0, 0, 0)).2.1 + (L.getD i (0, 0, 0)).2.2
def refTo (L : List (Nat × Nat × Nat)) : Option Nat → Nat
  | none => 0
  | some t => place L t
/-- what field f of object i holds -/
def fieldOf (L : List (Nat × Nat × Nat)) (E : List (List Int)) (i f : Nat) : Nat := if f < refsOf L i then refTo L (edgeN E L.length i f) else rawN i (f - refsOf L i)
/-- the graph is laid as far as field c of object i -/
def Part (L : List (Nat × Nat × Nat)) (E : List (List Int)) (i c : Nat) (ws : List Nat) : Prop := ∀ j f, j < L.length → f < fldsOf L j → ws.getD (place L j + 1 + f) 0 = if j < i ∨ (j = i ∧ f < c) then fieldOf L E j f else 0
theorem Part.set {L : List (Nat × Nat × Nat)} {E : List (List Int)} {i c : Nat} {ws : List Nat} (h : Part L E i c ws) (hi : i < L.length) (hc : c < fldsOf L i) (hl : place L L.length ≤ ws.length) : Part L E i (c + 1) (ws.set (place L i + 1 + c) (fieldOf L E i c)) := fun j f hj hf => by
  have hp := place_lt L hi
  unfold wd at hp
  unfold fldsOf at hc
  rw [getD_set _ _ _ _ (by omega)]
  by_cases e : place L j + 1 + f = place L i + 1 + c
  · obtain ⟨e1, e2⟩ := place_apart L j f i c hf hc e
    subst e1
    subst e2
    rw [if_pos rfl, if_pos (by omega)]
  · rw [if_neg e, h j f hj hf]
    by_cases hd : j < i ∨ (j = i ∧ f < c)
    · rw [if_pos hd, if_pos (by omega)]
    · rw [if_neg hd, if_neg]
      rintro (hh | ⟨e1, e2⟩)
      · exact hd (.inl hh)
      · subst e1
        exact e (by omega)
theorem fieldOf_lt {L : List (Nat × Nat × Nat)} (hg : Good L) (hl : L.length ≤ 4000) (E : List (List Int)) (i f : Nat) (hi : i < L.length) (hf : f < fldsOf L i) : fieldOf L E i f < 18446744073709551616 := by
  unfold fieldOf
  split
  · cases he : edgeN E L.length i f with
    | none => show 0 < 18446744073709551616; decide
    | some t =>
      have ht := edgeN_lt he
      have := place_bound hg t (by omega)
      unfold refTo
      dsimp only
      omega
  · have hg' := hg i hi
    unfold fldsOf at hf
    unfold rawN
    omega
/-- the block as the graph lies in it so far -/
structure GrAt (w0 w : World) (p bw bh : Nat) (L : List (Nat × Nat × Nat)) (E : List (List Int)) (hs : List Bool) (i c : Nat) (ws : List Nat) : Prop where
  ar : Ar w p bw bh ws hs (place L L.length)
  len : ws.length = place L L.length
  kept : Kept L ws hs
  part : Part L E i c ws
  but : But [bw] w0 w
theorem GrAt.below {w0 w w' : World} {p bw bh : Nat} {L : List (Nat × Nat × Nat)} {E : List (List Int)} {hs : List Bool} {i c : Nat} {ws : List Nat} (h : GrAt w0 w p bw bh L E hs i c ws) (hb : Below w.heap.size w w') : GrAt w0 w' p bw bh L E hs i c ws := ⟨h.ar.below hb, h.len, h.kept, h.part, h.but.trans (But.of_below hb)⟩
theorem GrAt.set {w0 w : World} {p bw bh : Nat} {L : List (Nat × Nat × Nat)} {E : List (List Int)} {hs : List Bool} {i c : Nat} {ws : List Nat} (h : GrAt w0 w p bw bh L E hs i c ws) (hg : Good L) (hl : L.length ≤ 4000) (hi : i < L.length) (hc : c < fldsOf L i) (v : Nat) (hv : v = fieldOf L E i c) :
    Calls Try.prog 25 #[.pointer (some ⟨p, 0, none⟩), .int .i64 (place L i : Nat), .int .i64 c, .int .u64 v] w fun e w' => e = .returned (.int .i64 0) ∧ ∃ ws', GrAt w0 w' p bw bh L E hs i (c + 1) ws' := by
  subst hv
  have ho := h.kept.obj hg i hi
  refine (set_yes (place L i) c (fieldOf L E i c) w (fieldOf_lt hg hl E i c hi hc) h.ar (h.kept.all hg) (by rw [ho]) (by rw [ho]; exact hc)).mono ?_
  rintro e w' ⟨rfl, hA, hB⟩
  exact ⟨rfl, _, ⟨hA, by rw [List.length_set]; exact h.len, h.kept.put i c _ hi hc (by rw [h.len]; exact Nat.le_refl _), h.part.set hi hc (by rw [h.len]; exact Nat.le_refl _), h.but.trans hB⟩⟩
end Go.Proofs.Ytdgdnpgjbphgaab
