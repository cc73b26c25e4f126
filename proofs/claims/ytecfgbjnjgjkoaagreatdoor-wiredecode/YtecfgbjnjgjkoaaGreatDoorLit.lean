/- Line: words that are laid down one behind the other. -/
import Derived.Test.YtecfgbjnjgjkoaaGreatDoorLis
namespace Go.Proofs.YtecfgbjnjgjkoaaGreatDoor
open Go.ChangeShapes Go.WideShapes Go.ChangeAt Go.RowKit
set_option linter.unusedVariables false
set_option linter.unusedSimpArgs false
set_option maxRecDepth 20000
set_option maxHeartbeats 4000000

theorem quoted_say (q : Nat) : ∀ (n : Nat) (b : List Nat), b.length ≤ n → ∀ x, Larder8.quotedP q b = some x → x.1.length ≤ b.length
  | n, [], _, x, h => by simp [Larder8.quotedP] at h
  | 0, c :: r, hl, x, h => by simp at hl
  | n + 1, c :: r, hl, x, h => by
    rw [Larder8.quotedP] at h
    by_cases hc : c = q
    · rw [if_pos hc] at h
      cases h
      simp
    · rw [if_neg hc] at h
      cases h2 : Larder8.quotedP q (r.drop (Larder8.qByte q c r).2) with
      | none => rw [h2] at h; cases h
      | some y =>
        rw [h2] at h
        cases h
        have hdl : (r.drop (Larder8.qByte q c r).2).length ≤ r.length := by simp
        have := quoted_say q n (r.drop (Larder8.qByte q c r).2) (by simp at hl ⊢; omega) y h2
        simp only [List.length_cons]
        omega
theorem first_plain (c : Nat) (r : List Nat) (h1 : Larder8.blankL c = false) (h2 : Larder8.quoteC c = false) : Larder8.firstL (c :: r) = (Larder8.firstL r).map (fun x => (c :: x.1, x.2)) := by
  have e : Larder8.pre (c :: r) = Larder8.pre r + 1 := by rw [Larder8.pre, h1, h2]; simp
  unfold Larder8.firstL
  rw [e]
  simp only [List.drop_succ_cons, List.take_succ_cons, Option.map_map]
  congr 1
theorem first_end : Larder8.firstL [] = some ([], []) := rfl
theorem first_blank (c : Nat) (r : List Nat) (h1 : Larder8.blankL c = true) : Larder8.firstL (c :: r) = some ([], c :: r) := by
  have e : Larder8.pre (c :: r) = 0 := by rw [Larder8.pre, h1]; simp
  unfold Larder8.firstL
  rw [e]
  simp [Larder8.closeP, h1]
theorem quote_no_blank (c : Nat) (h : c = 34 ∨ c = 39) : Larder8.blankL c = false ∧ Larder8.quoteC c = true := by
  rcases h with rfl | rfl <;> exact ⟨rfl, rfl⟩
theorem first_quote (c : Nat) (r : List Nat) (h : c = 34 ∨ c = 39) : Larder8.firstL (c :: r) = (match Larder8.quotedP c r with | none => none | some (s, []) => some (s, []) | some (s, d :: r') => if Larder8.blankL d then some (s, d :: r') else none) := by
  obtain ⟨h1, h2⟩ := quote_no_blank c h
  have e : Larder8.pre (c :: r) = 0 := by rw [Larder8.pre, h1, h2]; simp
  unfold Larder8.firstL
  rw [e]
  simp only [List.drop_zero, List.take_zero, List.nil_append]
  rw [Larder8.closeP, h1]
  simp only [Bool.false_eq_true, if_false]
  cases hq : Larder8.quotedP c r with
  | none => rfl
  | some y =>
    obtain ⟨s, t⟩ := y
    cases t with
    | nil => rfl
    | cons d t =>
      simp only
      split <;> rfl
/-- quotes without an end -/
theorem first_open {i : Nat} {T : List Nat} {c : Nat} (hi : i < T.length) (hc : c = T.getD i 0) (h : c = 34 ∨ c = 39) (hq : Larder8.quotedP c (T.drop (i + 1)) = none) : Larder8.firstL (T.drop i) = none := by
  rw [drop_at' hi, ← hc, first_quote c _ h, hq]
theorem first_shut {i k : Nat} {T l : List Nat} {c : Nat} (hi : i < T.length) (hc : c = T.getD i 0) (h : c = 34 ∨ c = 39) (hq : Larder8.quotedP c (T.drop (i + 1)) = some (l, T.drop (i + k))) (hk : T.length ≤ i + k ∨ Larder8.blankL (T.getD (i + k) 0) = true) : Larder8.firstL (T.drop i) = some (l, T.drop (i + k)) := by
  rw [drop_at' hi, ← hc, first_quote c _ h, hq]
  rcases Nat.lt_or_ge (i + k) T.length with q | q
  · have hk2 := hk.resolve_left (by omega)
    rw [drop_at' q]
    show (if Larder8.blankL (T.getD (i + k) 0) = true then _ else _) = _
    rw [if_pos hk2]
  · rw [List.drop_eq_nil_of_le q]
theorem first_glued {i k : Nat} {T l : List Nat} {c : Nat} (hi : i < T.length) (hc : c = T.getD i 0) (h : c = 34 ∨ c = 39) (hq : Larder8.quotedP c (T.drop (i + 1)) = some (l, T.drop (i + k))) (hk : i + k < T.length) (hb : Larder8.blankL (T.getD (i + k) 0) = false) : Larder8.firstL (T.drop i) = none := by
  rw [drop_at' hi, ← hc, first_quote c _ h, hq, drop_at' hk]
  show (if Larder8.blankL (T.getD (i + k) 0) = true then _ else _) = _
  rw [if_neg (by rw [hb]; decide)]
theorem line_skip {i j : Nat} {T : List Nat} (hij : i ≤ j) (hj : j ≤ T.length) (hb : ∀ k, i ≤ k → k < j → Larder8.blankL (T.getD k 0) = true) : Larder8.lineW (T.drop i) = Larder8.lineW (T.drop j) := by
  induction hij with
  | refl => rfl
  | step hij ih =>
    rename_i j
    rw [ih (by omega) (fun k h1 h2 => hb k h1 (by omega)), drop_at' (by omega), Larder8.lineW, dif_pos (hb j hij (by omega))]
theorem line_word {i : Nat} {T : List Nat} {x : List Nat × List Nat} (hi : i < T.length) (hb : Larder8.blankL (T.getD i 0) = false) (hf : Larder8.firstL (T.drop i) = some x) : Larder8.lineW (T.drop i) = (Larder8.lineW x.2).map (x.1 :: ·) := by
  rw [drop_at' hi] at hf ⊢
  rw [Larder8.lineW, dif_neg (by rw [hb]; decide)]
  split
  · rename_i h
    rw [hf] at h
    cases h
  · rename_i y h
    rw [hf] at h
    cases h
    rfl
theorem line_bad {i : Nat} {T : List Nat} (hi : i < T.length) (hb : Larder8.blankL (T.getD i 0) = false) (hf : Larder8.firstL (T.drop i) = none) : Larder8.lineW (T.drop i) = none := by
  rw [drop_at' hi] at hf ⊢
  rw [Larder8.lineW, dif_neg (by rw [hb]; decide)]
  split
  · rfl
  · rename_i y h
    rw [hf] at h
    cases h
theorem line_nil {i : Nat} {T : List Nat} (hi : T.length ≤ i) : Larder8.lineW (T.drop i) = some [] := by
  rw [List.drop_eq_nil_of_le hi, Larder8.lineW]
/-- words that lie in memory, and their row; all below B is as in w -/
structure WsAt (w W : World) (B : Nat) (v : Value) (Z : List (Value × List Nat)) : Prop where
  bel : Below B w W
  sz : B ≤ W.heap.size
  row : Rws W 25 1 v Z.length (fun k => (Z.getD k (undef, [])).1)
  rown : ∀ g, v.ownBlock = some g → B ≤ g
  ent : ∀ z ∈ Z, Rws W 5 1 z.1 z.2.length (byV z.2) ∧ ∀ g, z.1.ownBlock = some g → B ≤ g
  ap : Z.Pairwise (fun x y => ∀ g, x.1.ownBlock = some g → y.1.ownBlock ≠ some g)
theorem WsAt.start (w : World) (B : Nat) (hB : B ≤ w.heap.size) : WsAt w w B (.slice none 0 0) [] :=
  ⟨Below.refl _ _, hB, .inl ⟨rfl, rfl⟩, fun g hg => by simp [Value.ownBlock] at hg, fun z hz => (by cases hz), List.Pairwise.nil⟩
theorem WsAt.below {w W W' : World} {B : Nat} {v : Value} {Z : List (Value × List Nat)} (h : WsAt w W B v Z) (hb : Below W.heap.size W W') : WsAt w W' B v Z :=
  ⟨h.bel.trans (hb.mono h.sz), Nat.le_trans h.sz hb.size, h.row.below hb, h.rown, fun z hz => ⟨(h.ent z hz).1.below hb, (h.ent z hz).2⟩, h.ap⟩
/-- a list of words from elsewhere is as good as a new one -/
theorem WsAt.base {w0 w W : World} {B : Nat} {v : Value} {Z : List (Value × List Nat)} (h : WsAt w W B v Z) (h0 : Below B w0 w) : WsAt w0 W B v Z :=
  ⟨h0.trans h.bel, h.sz, h.row, h.rown, h.ent, h.ap⟩
/-- one word more -/
theorem WsAt.push {w W w' : World} {B : Nat} {v v' x : Value} {l : List Nat} {Z : List (Value × List Nat)} (h : WsAt w W B v Z) (hx : Rws W 5 1 x l.length (byV l)) (hxo : ∀ g, x.ownBlock = some g → B ≤ g) (hxa : ∀ z ∈ Z, ∀ g, z.1.ownBlock = some g → x.ownBlock ≠ some g)
    (hR : Rws w' 25 1 v' (Z.length + 1) (fun k => if k < Z.length * 1 then (Z.getD k (undef, [])).1 else [x].getD (k - Z.length * 1) undef)) (hG : Gw W w' v v') : WsAt w w' B v' (Z ++ [(x, l)]) := by
  have kp : ∀ y m, Rws W 5 1 y m.length (byV m) → Rws w' 5 1 y m.length (byV m) := fun y m hy => hy.same (fun g hg => hG.oth g (hy.lt g hg) (fun e => h.row.apart hy (by decide) g e hg))
  refine ⟨h.bel.trans ⟨hG.os, hG.tape, hG.output, hG.size, fun b hb => hG.oth b (Nat.lt_of_lt_of_le hb h.sz) (fun e => by have := h.rown b e; omega)⟩, Nat.le_trans h.sz hG.size, ?_, fun g hg => ?_, fun z hz => ?_, ?_⟩
  · rw [List.length_append, List.length_singleton]
    refine hR.congr (fun k hk => ?_)
    simp only [Nat.mul_one] at hk ⊢
    by_cases q : k < Z.length
    · rw [if_pos q, List.getD_eq_getElem?_getD, List.getD_eq_getElem?_getD, List.getElem?_append_left q]
    · have : k = Z.length := by omega
      subst this
      rw [if_neg q, List.getD_eq_getElem?_getD, List.getD_eq_getElem?_getD, List.getElem?_append_right (Nat.le_refl _)]
      simp
  · rcases hG.own g hg with q | q
    · exact h.rown g q
    · exact Nat.le_trans h.sz q
  · rcases List.mem_append.1 hz with q | q
    · exact ⟨kp _ _ (h.ent z q).1, (h.ent z q).2⟩
    · simp only [List.mem_singleton] at q
      subst q
      exact ⟨kp _ _ hx, hxo⟩
  · rw [List.pairwise_append]
    refine ⟨h.ap, List.pairwise_singleton _ _, fun y hy z hz => ?_⟩
    simp only [List.mem_singleton] at hz
    subst hz
    exact hxa y hy
end Go.Proofs.YtecfgbjnjgjkoaaGreatDoor
