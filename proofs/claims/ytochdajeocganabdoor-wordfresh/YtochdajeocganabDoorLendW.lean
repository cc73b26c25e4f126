/- Contracts of LendWords, IntactWords, sameWords, the document's Words. -/
import Derived.Test.YtochdajeocganabDoorLend
import Derived.Test.YtochdajeocganabDoorPack
namespace Go.Proofs.YtochdajeocganabDoor
open Go.ChangeShapes Go.WideShapes Go.ChangeAt Go.RowKit
set_option linter.unusedVariables false

theorem wcells_length (l : List Nat) : (wcells l).length = l.length := by simp [wcells]
theorem wcells_one (l : List Nat) : ∀ u ∈ wcells l, u.oneCell' = true := by
  intro u hu
  obtain ⟨c, _, rfl⟩ := List.mem_map.1 hu
  rfl
theorem wcells_get (l : List Nat) (j : Nat) (u : Value) (h : (wcells l)[j]? = some u) : j < l.length ∧ u = .int .u64 (l.getD j 0 : Nat) := by
  unfold wcells at h
  rw [List.getElem?_map] at h
  rw [List.getD_eq_getElem?_getD]
  cases hg : l[j]? with
  | none => rw [hg] at h; simp at h
  | some c =>
    rw [hg] at h
    simp at h
    exact ⟨(List.getElem?_eq_some_iff.1 hg).1, by rw [← h]; rfl⟩
theorem OwnW.below {w w' : World} {base : Nat} {v : Value} {l : List Nat} (h : OwnW w base v l) (hb : Below w.heap.size w w') : OwnW w' base v l := by
  refine ⟨h.1, ?_⟩
  rcases h.2 with hn | ⟨g, cap, cur, rfl, hbb, hg, rest⟩
  · exact .inl hn
  · exact .inr ⟨g, cap, cur, rfl, hbb, by rw [hb.block g (Array.getElem?_eq_some_iff.1 hg).1]; exact hg, rest⟩

/-- a list that was lent: the bytes l, the marks behind them in its spare room -/
def WLent (w : World) (base g cap : Nat) (l : List Nat) : Prop := OwnW w base (.slice (some ⟨g, 0, none⟩) (l ++ [165, 90, 165]).length cap) (l ++ [165, 90, 165])

theorem WLent.bytes {w : World} {base g cap : Nat} {l : List Nat} (h : WLent w base g cap l) : Words w (some ⟨g, 0, none⟩) l := by
  obtain ⟨a, c, e, hB⟩ := OwnW.shape h
  cases e
  rcases hB with h0 | ⟨b, off, e, hb, hc⟩
  · simp at h0
  · cases e
    refine .inr ⟨g, 0, rfl, hb, fun i hi => ?_⟩
    rw [hc i (by simp; omega), List.getD_eq_getElem?_getD, List.getD_eq_getElem?_getD, List.getElem?_append_left hi]

theorem WLent.below {w w' : World} {base g cap : Nat} {l : List Nat} (h : WLent w base g cap l) (hb : Below w.heap.size w w') : WLent w' base g cap l := OwnW.below h hb

theorem WLent.marks {w : World} {base g cap : Nat} {l : List Nat} (h : WLent w base g cap l) : l.length + 3 ≤ cap ∧ w.cell? ⟨g, l.length, none⟩ = some (.int .u64 165) ∧ w.cell? ⟨g, l.length + 1, none⟩ = some (.int .u64 90) ∧ w.cell? ⟨g, l.length + 2, none⟩ = some (.int .u64 165) := by
  have hlen : (l ++ [165, 90, 165]).length = l.length + 3 := by simp
  have h' := h
  unfold WLent OwnW at h'
  have hc : ∀ j, j < l.length + 3 → w.cell? ⟨g, j, none⟩ = (wcells (l ++ [165, 90, 165]))[j]? := fun j hj => by
    exact h'.cellAt j (by omega)
  refine ⟨?_, ?_, ?_, ?_⟩
  · rcases h'.2 with ⟨e, _⟩ | ⟨g', c', cur, e, _, _, hn, _⟩
    · cases e
    · cases e; omega
  · rw [hc _ (by omega), wcells_at _ _ (by omega), List.getD_eq_getElem?_getD, List.getElem?_append_right (Nat.le_refl _)]; simp
  · rw [hc _ (by omega), wcells_at _ _ (by omega), List.getD_eq_getElem?_getD, List.getElem?_append_right (by omega)]; simp
  · rw [hc _ (by omega), wcells_at _ _ (by omega), List.getD_eq_getElem?_getD, List.getElem?_append_right (by omega)]; simp

set_option maxRecDepth 100000 in
set_option maxHeartbeats 1000000 in
theorem lendw_any (a : Option Addr) (cap : Nat) (w : World) (l : List Nat) (hl : 8 * l.length ≤ 140737488351232) (hB : Words w a l) (hnil : a = none → cap = 0) :
    Calls Tryd.prog 53 #[.slice a l.length cap] w fun e w' => ∃ g c, e = .returned (.slice (some ⟨g, 0, none⟩) l.length c) ∧ WLent w' w.heap.size g c l ∧ Below w.heap.size w w' := by
  obtain ⟨i0, hi, hz0, hz1, hz2⟩ := info_parts Tryd.info45
  cases a with
  | none =>
    obtain rfl := hnil rfl
    have hl0 : l = [] := by
      rcases hB with h | ⟨b, off, h, _⟩
      · exact h
      · cases h
    subst hl0
    go_enter Tryd.func53, Tryd.ntmps53
    go_wp2_with (first | (at_builtin; refine wpList_append_own_none rfl (.tmp 4) (.tmp 5) 47 rfl w.heap.size 45 i0 1 Tryd.underlying47 hi _ 0 [] rfl (World.ownsRow_nil _ _ _ _) rfl ?_) | (at_builtin; refine wpList_append_own _ rfl (.tmp 7) (.tmp 8) 47 rfl w.heap.size 45 i0 (.int .u64 0) 1 8 Tryd.underlying47 hi hz0 hz1 hz2 rfl (by decide) _ 0 [] rfl (World.ownsRow_nil _ _ _ _) ⟨w.heap.size, 0, none⟩ 3 3 [.int .u64 165, .int .u64 90, .int .u64 165] rfl rfl ?c1 ?c2 ?c3 ?c4 ?c5 ?_))
    case c2 => exact ⟨rfl, rfl, rfl⟩
    case c3 => simp [maxLen]
    · intro v' w2 hown2 hgrow2 hnn
      have hne : v' ≠ .slice none 0 0 := by first | exact fun h => hnn h | exact fun h => absurd (hnn.1 h).2 (by omega)
      have hb2 : Below w.heap.size w w2 := ((Below.refl _ _).alloc (Nat.le_refl _) _).grown hgrow2 (by simp) (fun k h => by simp [Value.ownBlock] at h)
      rcases hown2.2 with ⟨h, _⟩ | ⟨g, cap', cur, rfl, hbb, hg, hnc, hrest⟩
      · exact absurd h hne
      · have HO : Hid (WLent w2 w.heap.size g cap' []) := hown2
        have hnc2 : 3 ≤ cap' := hnc
        clear hown2 hgrow2 hnn hne hrest hg hnc
        go_wp2
        go_ret
        exact ⟨g, cap', rfl, unhide HO, hb2⟩
  | some x =>
    have hnews : ∀ j u, (wcells l)[j]? = some u → w.cell? (x.add j) = some u := by
      intro j u hu
      obtain ⟨hj, rfl⟩ := wcells_get l j u hu
      rcases hB with rfl | ⟨b, off, h, hb, hc⟩
      · simp at hj
      · cases h
        rw [add_plain]; exact hc j hj
    clear hB hnil
    go_enter Tryd.func53, Tryd.ntmps53
    go_wp2_with (at_builtin; refine wpList_append_own _ rfl (.tmp 4) (.tmp 5) 47 rfl w.heap.size 45 i0 (.int .u64 0) 1 8 Tryd.underlying47 hi hz0 hz1 hz2 rfl (by decide) _ 0 [] rfl (World.ownsRow_nil _ _ _ _) x l.length cap (wcells l) rfl ?e0 ?e1 ?e2 ?e3 ?e4 ?e5 ?_)
    case e0 => simp [wcells]
    case e1 => exact hnews
    case e2 => exact wcells_one l
    case e3 => simp [maxLen]; omega
    case e4 => omega
    case e5 => exact Nat.le_refl _
    · intro v1 w1 hown1 hgrow1 _
      have hb1 : Below w.heap.size w w1 := (Below.refl _ _).grown hgrow1 (Nat.le_refl _) (fun k h => by simp [Value.ownBlock] at h)
      have hown1' : w1.ownsRow w.heap.size 45 1 v1 l.length (wcells l) := by simpa using hown1
      have hlt1 := hown1'.lt
      have hsz1 := hb1.size
      clear hnews hown1 hgrow1
      go_wp2_with (at_builtin; refine wpList_append_own _ rfl (.tmp 7) (.tmp 8) 47 rfl w.heap.size 45 i0 (.int .u64 0) 1 8 Tryd.underlying47 hi hz0 hz1 hz2 rfl (by decide) _ _ _ rfl (hown1'.alloc _) ⟨w1.heap.size, 0, none⟩ 3 3 [.int .u64 165, .int .u64 90, .int .u64 165] rfl rfl ?d1 ?d2 ?d3 ?d4 ?d5 ?_)
      case d1 =>
        intro j u hj
        match j, hj with
        | 0, hj => simp at hj; subst hj; simp [Addr.add]
        | 1, hj => simp at hj; subst hj; simp [Addr.add]
        | 2, hj => simp at hj; subst hj; simp [Addr.add]
      case d2 => first | exact ⟨rfl, rfl, rfl⟩ | (intro u hu; simp at hu; rcases hu with rfl | rfl | rfl <;> rfl)
      case d3 => simp [maxLen]; omega
      case d4 => omega
      case d5 => simp; omega
      · intro v' w2 hown2 hgrow2 hnn
        have hne : v' ≠ .slice none 0 0 := by first | exact fun h => hnn h | exact fun h => absurd (hnn.1 h).2 (by omega)
        have hb2 : Below w.heap.size w w2 := (hb1.alloc hsz1 _).grown hgrow2 (by simp; omega) (fun k h => (hlt1 k h).1)
        rcases hown2.2 with ⟨h, _⟩ | ⟨g, cap', cur, rfl, hbb, hg, hnc, hrest⟩
        · exact absurd h hne
        · have HO : Hid (WLent w2 w.heap.size g cap' l) := by
            show OwnW _ _ _ _
            unfold OwnW
            have e1 : (l ++ [165, 90, 165]).length = l.length + 3 := by simp
            have e2 : wcells (l ++ [165, 90, 165]) = wcells l ++ [.int .u64 165, .int .u64 90, .int .u64 165] := by simp [wcells]
            rw [e1, e2]; exact hown2
          have hnc2 : l.length + 3 ≤ cap' := hnc
          clear hown2 hgrow2 hnn hne hrest hg hnc hown1' hlt1
          go_wp2
          go_ret
          exact ⟨g, cap', rfl, unhide HO, hb2⟩


theorem rwords_any (n : Int) (w : World) (h1 : -9223372036854775808 ≤ n) (h2 : n ≤ 9223372036854775807) : Calls Tryd.prog 40 #[.int .i64 n] w fun e w' => e = .returned (.int .i64 (wordsI n)) ∧ w' = w := by
  by_cases h : n < 1
  · have HW : Hid (wordsI n = 0) := by unfold wordsI; rw [if_pos h]; rfl
    go_enter Tryd.func40, Tryd.ntmps40
    go_wp2
    go_ret
    exact ⟨ret_int (unhide HW).symm, rfl⟩
  · by_cases h8 : 0 < n % 8
    · have HW : Hid (wordsI n = n / 8 + 1) := by
        show wordsI n = _
        unfold wordsI; rw [if_neg h]; omega
      go_enter Tryd.func40, Tryd.ntmps40
      go_wp2
      go_ret
      exact ⟨ret_int (unhide HW).symm, rfl⟩
    · have HW : Hid (wordsI n = n / 8) := by
        show wordsI n = _
        unfold wordsI; rw [if_neg h]; omega
      go_enter Tryd.func40, Tryd.ntmps40
      go_wp2
      go_ret
      exact ⟨ret_int (unhide HW).symm, rfl⟩

set_option maxHeartbeats 400000 in
theorem samew_yes (a a' : Option Addr) (cap cap' : Nat) (w : World) (l : List Nat) (hl : l.length ≤ 140737488355328) (hB : Words w a l) (hB' : Words w a' l) :
    Calls Tryd.prog 12 #[.slice a l.length cap, .slice a' l.length cap'] w fun e w' => e = .returned (.bool true) ∧ Below w.heap.size w w' := by
  rcases hB with rfl | ⟨b, off, rfl, hb, hc⟩
  · go_enter Tryd.func12, Tryd.ntmps12
    go_wp2_with fail
    go_loopw [5] (fun i wr => i = .int .i64 0 ∧ wr = w) (fun _ _ => 0)
    case atStart => exact ⟨rfl, rfl⟩
    case round =>
      obtain ⟨rfl, rfl⟩ := hrel
      go_wp2
      go_ret
      exact ⟨rfl, Below.refl _ _⟩
  · rcases hB' with h0 | ⟨b', off', rfl, hb', hc'⟩
    · subst h0
      go_enter Tryd.func12, Tryd.ntmps12
      go_wp2_with fail
      go_loopw [5] (fun i wr => i = .int .i64 0 ∧ wr = w) (fun _ _ => 0)
      case atStart => exact ⟨rfl, rfl⟩
      case round =>
        obtain ⟨rfl, rfl⟩ := hrel
        go_wp2
        go_ret
        exact ⟨rfl, Below.refl _ _⟩
    · have HC := hide hc
      have HC' := hide hc'
      clear hc hc'
      go_enter Tryd.func12, Tryd.ntmps12
      go_wp2_with fail
      go_loopw [5] (fun i wr => ∃ k n : Nat, k ≤ l.length ∧ i = .int .i64 k ∧ wr = w.drewN n) (fun i _ => l.length - (intOf i).toNat)
      case atStart => exact ⟨0, 0, by omega, rfl, rfl⟩
      case round =>
        obtain ⟨k, n, hk, rfl, rfl⟩ := hrel
        by_cases hlt : k < l.length
        · have c1 := unhide HC k hlt
          have c2 := unhide HC' k hlt
          generalize l.getD k 0 = c at c1 c2
          go_wp2
          go_quiet (fail)
          go_wp2
          go_roundw
          case rel => exact ⟨k + 1, _, by omega, by go_num, rfl⟩
          case measure => simp [intOf]; omega
        · go_wp2
          go_ret
          exact ⟨rfl, below_drewN (Below.refl _ _) _⟩
end Go.Proofs.YtochdajeocganabDoor
