/- record: the reader: lists of texts. -/
import Derived.Test.YtljeedgnjgeopaaYd
namespace Larder
set_option linter.unusedVariables false
set_option linter.unusedSimpArgs false
theorem rdN_tk (k : Nat) (l : List Nat) : rdN k l = (tkS (some l) k).map fun r => (ofBig (tkV (some l) k), r) := by
  unfold rdN tkS tkV
  by_cases h : k ≤ l.length
  · simp [h]
  · simp [h]
theorem tkS_none (k : Nat) : tkS none k = none := rfl
theorem tkV_none (k : Nat) : tkV none k = [] := rfl
theorem txS_none : txS none = none := by
  unfold txS
  split <;> rfl
theorem tkS_tkV {s : Rd} {k : Nat} {r : List Nat} (h : tkS s k = some r) : ∃ l, s = some l ∧ k ≤ l.length ∧ r = l.drop k ∧ tkV s k = l.take k := by
  cases s with
  | none => cases h
  | some l =>
    unfold tkS at h
    dsimp only at h
    by_cases hk : k ≤ l.length
    · rw [if_pos hk] at h
      cases h
      exact ⟨l, rfl, hk, rfl, by unfold tkV; dsimp only; rw [if_pos hk]⟩
    · rw [if_neg hk] at h; cases h
theorem rdT_tx (l : List Nat) : rdT l = (txS (some l)).map fun r => (txV (some l), r) := by
  unfold rdT txS txV
  rw [rdN_tk]
  cases h : tkS (some l) 4 with
  | none =>
    by_cases h4 : ofBig (tkV (some l) 4) ≤ 4096
    · rw [if_pos h4, if_pos h4, tkS_none]; rfl
    · rw [if_neg h4, if_neg h4]; rfl
  | some r =>
    simp only [Option.map_some]
    generalize ofBig (tkV (some l) 4) = n
    by_cases h4 : n ≤ 4096
    · by_cases h5 : n ≤ r.length
      · simp [h4, h5, tkS, tkV]
      · simp [h4, h5, tkS, tkV]
    · simp [h4]
/-- a list, its number ahead -/
def rdLst {α : Type} (f : List Nat → Option (α × List Nat)) (l : List Nat) : Option (List α × List Nat) := match rdN 4 l with
  | none => none
  | some (n, r) => rdL f n r
theorem rdL_none {α : Type} {f : List Nat → Option (α × List Nat)} {l : List Nat} {i : Nat} (h : rdL f i l = none) : ∀ n, i ≤ n → rdL f n l = none := by
  intro n hn
  induction n with
  | zero => obtain rfl : i = 0 := by omega
            exact h
  | succ n ih =>
    by_cases e : i = n + 1
    · rw [← e]; exact h
    · unfold rdL
      rw [ih (by omega)]
theorem rdL_len {α : Type} {f : List Nat → Option (α × List Nat)} (hf : ∀ l x r, f l = some (x, r) → r.length < l.length) : ∀ (n : Nat) (l r : List Nat) (xs : List α), rdL f n l = some (xs, r) → xs.length = n ∧ n + r.length ≤ l.length := by
  intro n
  induction n with
  | zero =>
    intro l r xs h
    unfold rdL at h
    cases h
    exact ⟨rfl, by omega⟩
  | succ n ih =>
    intro l r xs h
    unfold rdL at h
    split at h
    · cases h
    · rename_i ys r1 h1
      split at h
      · cases h
      · rename_i x r2 h2
        cases h
        obtain ⟨q1, q2⟩ := ih _ _ _ h1
        have := hf _ _ _ h2
        exact ⟨by simp [q1], by omega⟩
theorem rdN_less {k : Nat} {l r : List Nat} {n : Nat} (hk : 0 < k) (h : rdN k l = some (n, r)) : r.length < l.length := by
  unfold rdN at h
  split at h
  · cases h
    rw [List.length_drop]
    omega
  · cases h
theorem rdT_less {l r x : List Nat} (h : rdT l = some (x, r)) : r.length < l.length := by
  unfold rdT at h
  split at h
  · cases h
  · rename_i n r1 h1
    have := rdN_less (by decide) h1
    split at h
    · cases h
      rw [List.length_drop]
      omega
    · cases h
end Larder
namespace Go.Proofs.Ytljeedgnjgeopaa
open Go.ChangeShapes Go.WideShapes Go.ChangeAt Go.RowKit
set_option linter.unusedVariables false
set_option linter.unusedSimpArgs false
set_option maxRecDepth 100000
set_option maxHeartbeats 4000000
/-- blocks of some types are as they were -/
def Kt (p : TypeId → Prop) (w w' : World) : Prop := ∀ (b : Nat) (C : Array Value) (t : TypeId) (f : Nat × Nat), w.heap[b]? = some (.cells C t f) → p t → w'.heap[b]? = w.heap[b]?
theorem Kx.kt {g : Nat} {w w' : World} {s : Larder.Rd} (h : Kx g w w') (hr : RdAt w g s) : Kt (fun t => t ≠ 94) w w' := fun b C t f hb ht => by
  refine h.blk b (blk_lt hb) (fun e => ?_)
  obtain ⟨a, n, c, h1, -⟩ := hr
  rw [e, h1] at hb
  cases hb
  exact ht rfl
theorem Kt.of {w w' : World} {p : TypeId → Prop} (h : Below w.heap.size w w') : Kt p w w' := fun b C t f hb _ => h.block b (blk_lt hb)
theorem Kt.ga {w w' : World} {v v' : Value} {e : TypeId} {c m s n : Nat} {f : Nat → Value} (hg : Ga e c m w w' v v') (h : Rws w e s v n f) : Kt (fun t => t ≠ e) w w' := fun b C t f' hb ht => by
  rcases hg with ⟨rfl, rfl⟩ | hg
  · rfl
  · refine hg.other b (blk_lt hb) (fun e2 => ?_)
    obtain ⟨c2, hc2⟩ := h.type b e2
    rw [hb] at hc2
    cases hc2
    exact ht rfl
theorem Rws.kt {w w' : World} {t : TypeId} {s : Nat} {v : Value} {n : Nat} {f : Nat → Value} {p : TypeId → Prop} (h : Rws w t s v n f) (hk : Kt p w w') (hp : p t) : Rws w' t s v n f := h.same (fun g hg => by
  obtain ⟨c, hc⟩ := h.type g hg
  exact hk g c t (0, 0) hc hp)
/-- a list of texts, all in rows of their own -/
def TL (w : World) (v : Value) (xs : List (List Nat)) : Prop := ∃ f, Rws w 27 1 v xs.length f ∧ ∀ i T, xs[i]? = some T → ∃ ai ci, f i = .slice ai T.length ci ∧ RB w (.slice ai T.length ci) T
theorem TL.kt {w w' : World} {v : Value} {xs : List (List Nat)} {p : TypeId → Prop} (h : TL w v xs) (hk : Kt p w w') (h27 : p 27) (h5 : p 5) : TL w' v xs := by
  obtain ⟨f, h1, h2⟩ := h
  refine ⟨f, h1.kt hk h27, fun i T hT => ?_⟩
  obtain ⟨ai, ci, q1, q2⟩ := h2 i T hT
  exact ⟨ai, ci, q1, Rws.kt q2 hk h5⟩
theorem TL.nil (w : World) : TL w (.slice none 0 0) [] := ⟨fun _ => undef, .inl ⟨rfl, rfl⟩, fun i T h => by cases h⟩
theorem TL.push {w w' : World} {v v' : Value} {xs : List (List Nat)} {V : List Nat} {a : Option Addr} {c : Nat} {f : Nat → Value} {n m cc : Nat} (hn : n = xs.length) (hf : ∀ i T, xs[i]? = some T → ∃ ai ci, f i = .slice ai T.length ci ∧ RB w (.slice ai T.length ci) T) (hr : Rws w 27 1 v n f) (hV : RB w (.slice a V.length c) V) (hw : Rws w' 27 1 v' (n + 1) (fun k => if k < n * 1 then f k else [Value.slice a V.length c].getD (k - n * 1) undef)) (hg : Ga 27 cc m w w' v v') : TL w' v' (xs ++ [V]) := by
  have hk := Kt.ga hg hr
  refine ⟨_, by rw [List.length_append, ← hn]; exact hw, fun i T hT => ?_⟩
  simp only [Nat.mul_one]
  by_cases hi : i < n
  · rw [if_pos hi]
    rw [List.getElem?_append_left (by omega)] at hT
    obtain ⟨ai, ci, q1, q2⟩ := hf i T hT
    exact ⟨ai, ci, q1, Rws.kt q2 hk (by decide)⟩
  · rw [if_neg hi]
    rw [List.getElem?_append_right (by omega)] at hT
    have hi2 : i - xs.length = 0 := by
      rcases Nat.eq_zero_or_pos (i - xs.length) with e | e
      · exact e
      · rw [List.getElem?_eq_none (by simp; omega)] at hT; cases hT
    rw [hi2] at hT
    cases hT
    rw [hn, hi2]
    exact ⟨a, c, rfl, Rws.kt hV hk (by decide)⟩
theorem RdAt.ga {w w' : World} {g : Nat} {s : Larder.Rd} {v v' : Value} {e : TypeId} {c m : Nat} (h : RdAt w g s) (hg : Ga e c m w w' v v') (hv : ∀ q, v.ownBlock = some q → g < q) : RdAt w' g s := by
  rcases hg with ⟨rfl, rfl⟩ | hg
  · exact h
  · obtain ⟨a, n, cc, h1, h2⟩ := h
    have hlt := blk_lt h1
    refine ⟨a, n, cc, (hg.other g hlt (fun e => by have := hv g e; omega)).trans h1, ?_⟩
    rcases h2 with h | ⟨b, off, e, hb, q1, q2, q3⟩
    · exact .inl h
    · refine .inr ⟨b, off, e, hb, q1, q2, fun i hi => ?_⟩
      rw [← q3 i hi]
      exact cell_eq (hg.other b (by omega) (fun e => by have := hv b e; omega)) _
theorem Kx.ga {g : Nat} {w0 w w' : World} {v v' : Value} {e : TypeId} {c m : Nat} (h : Kx g w0 w) (hg : Ga e c m w w' v v') (hv : ∀ q, v.ownBlock = some q → w0.heap.size ≤ q) : Kx g w0 w' := by
  rcases hg with ⟨rfl, rfl⟩ | hg
  · exact h
  · have := hg.below w0.heap.size h.size hv
    exact ⟨this.os.trans h.os, this.tape.trans h.tape, this.output.trans h.output, Nat.le_trans h.size this.size, fun k hk hn => (this.block k hk).trans (h.blk k hk hn)⟩
theorem own_ga {w w' : World} {v v' : Value} {e : TypeId} {c m B : Nat} (hg : Ga e c m w w' v v') (hv : ∀ q, v.ownBlock = some q → B ≤ q) (hB : B ≤ w.heap.size) : ∀ q, v'.ownBlock = some q → B ≤ q := by
  rcases hg with ⟨rfl, rfl⟩ | hg
  · exact hv
  · exact hg.own B hB hv
/-- what a list of texts answers -/
def LsEnd (w : World) (g : Nat) (R : Option (List (List Nat) × List Nat)) (e : Ending) (w' : World) : Prop := ∃ a n c, e = .returned (.slice a n c) ∧ Hid (Kx g w w' ∧ (∀ q, (Value.slice a n c).ownBlock = some q → w.heap.size ≤ q) ∧ ((R = none ∧ RdAt w' g none) ∨ ∃ xs r, R = some (xs, r) ∧ RdAt w' g (some r) ∧ n = xs.length ∧ TL w' (.slice a n c) xs))
end Go.Proofs.Ytljeedgnjgeopaa
