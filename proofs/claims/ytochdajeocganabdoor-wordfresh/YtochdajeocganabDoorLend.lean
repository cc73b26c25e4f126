/- Contracts of Lend and Intact. -/
import Derived.Test.YtochdajeocganabDoorSame
namespace Go.Proofs.YtochdajeocganabDoor
open Go.ChangeShapes Go.WideShapes Go.ChangeAt Go.RowKit
set_option linter.unusedVariables false

/-- a list that was lent: the bytes l, the marks behind them in its spare room -/
def Lent (w : World) (base g cap : Nat) (l : List Nat) : Prop := OwnB w base (.slice (some ⟨g, 0, none⟩) (l ++ [165, 90, 165]).length cap) (l ++ [165, 90, 165])

theorem Lent.bytes {w : World} {base g cap : Nat} {l : List Nat} (h : Lent w base g cap l) : Bytes w (some ⟨g, 0, none⟩) l := by
  obtain ⟨a, c, e, hB, _⟩ := OwnB.shape h
  cases e
  rcases hB with h0 | ⟨b, off, e, hb, hc⟩
  · simp at h0
  · cases e
    refine .inr ⟨g, 0, rfl, hb, fun i hi => ?_⟩
    rw [hc i (by simp; omega), List.getD_eq_getElem?_getD, List.getD_eq_getElem?_getD, List.getElem?_append_left hi]

theorem Lent.below {w w' : World} {base g cap : Nat} {l : List Nat} (h : Lent w base g cap l) (hb : Below w.heap.size w w') : Lent w' base g cap l := OwnB.below h hb

theorem Lent.marks {w : World} {base g cap : Nat} {l : List Nat} (h : Lent w base g cap l) : l.length + 3 ≤ cap ∧ w.cell? ⟨g, l.length, none⟩ = some (.int .u8 165) ∧ w.cell? ⟨g, l.length + 1, none⟩ = some (.int .u8 90) ∧ w.cell? ⟨g, l.length + 2, none⟩ = some (.int .u8 165) := by
  have hlen : (l ++ [165, 90, 165]).length = l.length + 3 := by simp
  have h' := h
  unfold Lent OwnB at h'
  have hc : ∀ j, j < l.length + 3 → w.cell? ⟨g, j, none⟩ = (cellsOf (l ++ [165, 90, 165]))[j]? := fun j hj => by
    exact h'.cellAt j (by omega)
  refine ⟨?_, ?_, ?_, ?_⟩
  · rcases h'.2 with ⟨e, _⟩ | ⟨g', c', cur, e, _, _, hn, _⟩
    · cases e
    · cases e; omega
  · rw [hc _ (by omega), cellsOf_at _ _ (by omega), List.getD_eq_getElem?_getD, List.getElem?_append_right (Nat.le_refl _)]; simp
  · rw [hc _ (by omega), cellsOf_at _ _ (by omega), List.getD_eq_getElem?_getD, List.getElem?_append_right (by omega)]; simp
  · rw [hc _ (by omega), cellsOf_at _ _ (by omega), List.getD_eq_getElem?_getD, List.getElem?_append_right (by omega)]; simp

set_option maxRecDepth 100000 in
set_option maxHeartbeats 1000000 in
theorem lend_any (a : Option Addr) (cap : Nat) (w : World) (l : List Nat) (hl : l.length ≤ 140737488351232) (hB : Bytes w a l) (hnil : a = none → cap = 0) :
    Calls Tryd.prog 34 #[.slice a l.length cap] w fun e w' => ∃ g c, e = .returned (.slice (some ⟨g, 0, none⟩) l.length c) ∧ Lent w' w.heap.size g c l ∧ Below w.heap.size w w' := by
  obtain ⟨i0, hi, hz0, hz1, hz2⟩ := info_parts Tryd.info5
  cases a with
  | none =>
    obtain rfl := hnil rfl
    have hl0 : l = [] := by
      rcases hB with h | ⟨b, off, h, _⟩
      · exact h
      · cases h
    subst hl0
    go_enter Tryd.func34, Tryd.ntmps34
    go_wp2_with (first | (at_builtin; refine wpList_append_own_none rfl (.tmp 4) (.tmp 5) 46 rfl w.heap.size 5 i0 1 Tryd.underlying46 hi _ 0 [] rfl (World.ownsRow_nil _ _ _ _) rfl ?_) | (at_builtin; refine wpList_append_own _ rfl (.tmp 7) (.tmp 8) 46 rfl w.heap.size 5 i0 (.int .u8 0) 1 1 Tryd.underlying46 hi hz0 hz1 hz2 rfl (by decide) _ 0 [] rfl (World.ownsRow_nil _ _ _ _) ⟨w.heap.size, 0, none⟩ 3 3 [.int .u8 165, .int .u8 90, .int .u8 165] rfl rfl ?c1 ?c2 ?c3 ?c4 ?c5 ?_))
    case c2 => exact ⟨rfl, rfl, rfl⟩
    case c3 => simp [maxLen]
    · intro v' w2 hown2 hgrow2 hnn
      have hne : v' ≠ .slice none 0 0 := by first | exact fun h => hnn h | exact fun h => absurd (hnn.1 h).2 (by omega)
      have hb2 : Below w.heap.size w w2 := ((Below.refl _ _).alloc (Nat.le_refl _) _).grown hgrow2 (by simp) (fun k h => by simp [Value.ownBlock] at h)
      rcases hown2.2 with ⟨h, _⟩ | ⟨g, cap', cur, rfl, hbb, hg, hnc, hrest⟩
      · exact absurd h hne
      · have HO : Hid (Lent w2 w.heap.size g cap' []) := hown2
        have hnc2 : 3 ≤ cap' := hnc
        clear hown2 hgrow2 hnn hne hrest hg hnc
        go_wp2
        go_ret
        exact ⟨g, cap', rfl, unhide HO, hb2⟩
  | some x =>
    have hnews : ∀ j u, (cellsOf l)[j]? = some u → w.cell? (x.add j) = some u := by
      intro j u hu
      obtain ⟨hj, rfl⟩ := cellsOf_get l j u hu
      rcases hB with rfl | ⟨b, off, h, hb, hc⟩
      · simp at hj
      · cases h
        rw [add_plain]; exact hc j hj
    clear hB hnil
    go_enter Tryd.func34, Tryd.ntmps34
    go_wp2_with (at_builtin; refine wpList_append_own _ rfl (.tmp 4) (.tmp 5) 46 rfl w.heap.size 5 i0 (.int .u8 0) 1 1 Tryd.underlying46 hi hz0 hz1 hz2 rfl (by decide) _ 0 [] rfl (World.ownsRow_nil _ _ _ _) x l.length cap (cellsOf l) rfl ?e0 ?e1 ?e2 ?e3 ?e4 ?e5 ?_)
    case e0 => simp [cellsOf]
    case e1 => exact hnews
    case e2 => exact cellsOf_one l
    case e3 => simp [maxLen]; omega
    case e4 => omega
    case e5 => exact Nat.le_refl _
    · intro v1 w1 hown1 hgrow1 _
      have hb1 : Below w.heap.size w w1 := (Below.refl _ _).grown hgrow1 (Nat.le_refl _) (fun k h => by simp [Value.ownBlock] at h)
      have hown1' : w1.ownsRow w.heap.size 5 1 v1 l.length (cellsOf l) := by simpa using hown1
      have hlt1 := hown1'.lt
      have hsz1 := hb1.size
      clear hnews hown1 hgrow1
      go_wp2_with (at_builtin; refine wpList_append_own _ rfl (.tmp 7) (.tmp 8) 46 rfl w.heap.size 5 i0 (.int .u8 0) 1 1 Tryd.underlying46 hi hz0 hz1 hz2 rfl (by decide) _ _ _ rfl (hown1'.alloc _) ⟨w1.heap.size, 0, none⟩ 3 3 [.int .u8 165, .int .u8 90, .int .u8 165] rfl rfl ?d1 ?d2 ?d3 ?d4 ?d5 ?_)
      case d1 =>
        intro j u hj
        match j, hj with
        | 0, hj => simp at hj; subst hj; simp [Addr.add]
        | 1, hj => simp at hj; subst hj; simp [Addr.add]
        | 2, hj => simp at hj; subst hj; simp [Addr.add]
      case d2 => first | exact ⟨rfl, rfl, rfl⟩ | (intro u hu; simp at hu; rcases hu with rfl | rfl | rfl <;> rfl)
      case d3 => simp [maxLen]; omega
      case d4 => omega
      case d5 => simp; omega
      · intro v' w2 hown2 hgrow2 hnn
        have hne : v' ≠ .slice none 0 0 := by first | exact fun h => hnn h | exact fun h => absurd (hnn.1 h).2 (by omega)
        have hb2 : Below w.heap.size w w2 := (hb1.alloc hsz1 _).grown hgrow2 (by simp; omega) (fun k h => (hlt1 k h).1)
        rcases hown2.2 with ⟨h, _⟩ | ⟨g, cap', cur, rfl, hbb, hg, hnc, hrest⟩
        · exact absurd h hne
        · have HO : Hid (Lent w2 w.heap.size g cap' l) := by
            show OwnB _ _ _ _
            unfold OwnB
            have e1 : (l ++ [165, 90, 165]).length = l.length + 3 := by simp
            have e2 : cellsOf (l ++ [165, 90, 165]) = cellsOf l ++ [.int .u8 165, .int .u8 90, .int .u8 165] := by simp [cellsOf]
            rw [e1, e2]; exact hown2
          have hnc2 : l.length + 3 ≤ cap' := hnc
          clear hown2 hgrow2 hnn hne hrest hg hnc hown1' hlt1
          go_wp2
          go_ret
          exact ⟨g, cap', rfl, unhide HO, hb2⟩

set_option maxRecDepth 100000 in
set_option maxHeartbeats 400000 in
theorem intact_yes (a : Option Addr) (cap g c base : Nat) (w : World) (l : List Nat) (hl : l.length ≤ 140737488351232) (hB : Bytes w a l) (hL : Lent w base g c l) :
    Calls Tryd.prog 37 #[.slice (some ⟨g, 0, none⟩) l.length c, .slice a l.length cap] w fun e w' => e = .returned (.bool true) ∧ w' = w := by
  have h1 := conv_any (some ⟨g, 0, none⟩) c w l hL.bytes
  have h2 := conv_any a cap w l hB
  obtain ⟨hc, m0, m1, m2⟩ := hL.marks
  generalize strOfNums (l.map Int.ofNat) = S at *
  clear hB hL
  go_enter Tryd.func37, Tryd.ntmps37
  go_wp2
  go_ret
  exact ⟨rfl, rfl⟩
end Go.Proofs.YtochdajeocganabDoor
