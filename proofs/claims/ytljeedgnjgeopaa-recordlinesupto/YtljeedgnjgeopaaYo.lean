/- record: the row of records with which a log begins. -/
import Derived.Test.YtljeedgnjgeopaaYn
namespace Larder
set_option linter.unusedVariables false
set_option linter.unusedSimpArgs false
/-- where the q-th record begins -/
def offR (es : List EntP) (q : Nat) : Nat := ((es.take q).flatMap recE).length
theorem offR_zero (es : List EntP) : offR es 0 = 0 := rfl
theorem offR_succ {es : List EntP} {q : Nat} {e : EntP} (h : es[q]? = some e) : offR es (q + 1) = offR es q + (recE e).length := by
  unfold offR
  rw [List.take_add_one, h, List.flatMap_append, List.length_append]
  simp
theorem recE_pos (e : EntP) : 26 ≤ (recE e).length := by
  unfold recE
  rw [frame_len]
  omega
/-- the longest row of records with which bytes begin -/
structure Row (wr : Int → Int) (b : List Nat) (es : List EntP) : Prop where
  step : ∀ q e, es[q]? = some e → fstR wr (b.drop (offR es q)) = some e
  fol : ∀ q e a, es[q + 1]? = some e → es[q]? = some a → folB e a = true
  stop : fstR wr (b.drop (offR es es.length)) = none ∨ ∃ e a, fstR wr (b.drop (offR es es.length)) = some e ∧ 0 < es.length ∧ es[es.length - 1]? = some a ∧ folB e a = false
theorem Row.le {wr : Int → Int} {b : List Nat} {es : List EntP} (h : Row wr b es) : ∀ q, q ≤ es.length → offR es q ≤ b.length := by
  intro q
  induction q with
  | zero => intro _; rw [offR_zero]; omega
  | succ q ih =>
    intro hq
    have h1 := ih (by omega)
    obtain ⟨e, he⟩ : ∃ e, es[q]? = some e := ⟨_, List.getElem?_eq_getElem (by omega)⟩
    have h2 := (of_fst (h.step q e he)).2.length_le
    rw [List.length_drop] at h2
    rw [offR_succ he]
    omega
/-- the rows of records of some bytes, by fuel -/
def recsF (wr : Int → Int) : Nat → List Nat → Option EntP → List EntP
  | 0, _, _ => []
  | k + 1, b, ah => match fstR wr b with
    | none => []
    | some e => if (match ah with | none => true | some a => folB e a) = true then e :: recsF wr k (b.drop (recE e).length) (some e) else []
theorem offR_cons (e : EntP) (es : List EntP) (q : Nat) : offR (e :: es) (q + 1) = (recE e).length + offR es q := by
  unfold offR
  rw [List.take_succ_cons, List.flatMap_cons, List.length_append]
theorem recsF_row {wr : Int → Int} : ∀ (k : Nat) (b : List Nat) (ah : Option EntP), b.length < k →
    (∀ q e, (recsF wr k b ah)[q]? = some e → fstR wr (b.drop (offR (recsF wr k b ah) q)) = some e) ∧
    (∀ q e a, (recsF wr k b ah)[q + 1]? = some e → (recsF wr k b ah)[q]? = some a → folB e a = true) ∧
    (∀ e a, (recsF wr k b ah)[0]? = some e → ah = some a → folB e a = true) ∧
    (fstR wr (b.drop (offR (recsF wr k b ah) (recsF wr k b ah).length)) = none ∨ ∃ e a, fstR wr (b.drop (offR (recsF wr k b ah) (recsF wr k b ah).length)) = some e ∧ (if (recsF wr k b ah).length = 0 then ah else (recsF wr k b ah)[(recsF wr k b ah).length - 1]?) = some a ∧ folB e a = false) := by
  intro k
  induction k with
  | zero => intro b ah h; omega
  | succ k ih =>
    intro b ah hk
    cases hf : fstR wr b with
    | none =>
      rw [show recsF wr (k + 1) b ah = [] by unfold recsF; rw [hf]]
      refine ⟨fun q e h => (by simp at h), fun q e a h => (by simp at h), fun e a h => (by simp at h), .inl ?_⟩
      show fstR wr (b.drop 0) = none
      rw [List.drop_zero]
      exact hf
    | some e =>
      by_cases hfo : (match ah with | none => true | some a => folB e a) = true
      · rw [show recsF wr (k + 1) b ah = e :: recsF wr k (b.drop (recE e).length) (some e) by (conv => lhs; unfold recsF); rw [hf]; dsimp only; rw [if_pos hfo]]
        have hp := (of_fst hf).2.length_le
        have hr := recE_pos e
        obtain ⟨i1, i2, i3, i4⟩ := ih (b.drop (recE e).length) (some e) (by rw [List.length_drop]; omega)
        refine ⟨?_, ?_, ?_, ?_⟩
        · intro q x hx
          cases q with
          | zero =>
            simp at hx
            rw [offR_zero, List.drop_zero, ← hx]
            exact hf
          | succ q =>
            rw [List.getElem?_cons_succ] at hx
            rw [offR_cons, ← List.drop_drop]
            exact i1 q x hx
        · intro q x a hx ha
          rw [List.getElem?_cons_succ] at hx
          cases q with
          | zero =>
            simp at ha
            exact i3 x a hx (by rw [ha])
          | succ q =>
            rw [List.getElem?_cons_succ] at ha
            exact i2 q x a hx ha
        · intro x a hx ha
          simp at hx
          subst hx
          rw [ha] at hfo
          exact hfo
        · rw [List.length_cons, offR_cons, ← List.drop_drop]
          rcases i4 with h | ⟨x, a, h1, h2, h3⟩
          · exact .inl h
          · refine .inr ⟨x, a, h1, ?_, h3⟩
            rw [if_neg (by omega), Nat.add_sub_cancel]
            by_cases h0 : (recsF wr k (b.drop (recE e).length) (some e)).length = 0
            · rw [if_pos h0] at h2
              rw [h0]
              exact h2
            · rw [if_neg h0] at h2
              obtain ⟨m, hm⟩ : ∃ m, (recsF wr k (b.drop (recE e).length) (some e)).length = m + 1 := ⟨_, (Nat.succ_pred_eq_of_pos (by omega)).symm⟩
              rw [hm, Nat.add_sub_cancel] at h2
              rw [hm, List.getElem?_cons_succ]
              exact h2
      · rw [show recsF wr (k + 1) b ah = [] by unfold recsF; rw [hf]; dsimp only; rw [if_neg hfo]]
        refine ⟨fun q e h => (by simp at h), fun q e a h => (by simp at h), fun e a h => (by simp at h), ?_⟩
        cases ah with
        | none => exact absurd rfl hfo
        | some a =>
          refine .inr ⟨e, a, ?_, rfl, by simpa using hfo⟩
          show fstR wr (b.drop 0) = some e
          rw [List.drop_zero]
          exact hf
/-- each log has its row -/
theorem row_of (wr : Int → Int) (b : List Nat) : Row wr b (recsF wr (b.length + 1) b none) := by
  obtain ⟨h1, h2, h3, h4⟩ := recsF_row (wr := wr) (b.length + 1) b none (by omega)
  refine ⟨h1, h2, ?_⟩
  rcases h4 with h | ⟨e, a, q1, q2, q3⟩
  · exact .inl h
  · by_cases h0 : (recsF wr (b.length + 1) b none).length = 0
    · rw [if_pos h0] at q2; cases q2
    · rw [if_neg h0] at q2
      exact .inr ⟨e, a, q1, by omega, q2, q3⟩
end Larder
