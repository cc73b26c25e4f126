/- Bytes as a text. -/
import Derived.Test.YtidfbelckdlbhabGreatSame
import Derived.Test.YtidfbelckdlbhabGreatNumMath
namespace Go.Proofs.YtidfbelckdlbhabGreat
open Go.ChangeShapes Go.WideShapes Go.ChangeAt Go.RowKit
set_option linter.unusedVariables false

/-- the text that bytes spell -/
def str (l : List Nat) : ByteArray := strOfNums (l.map Int.ofNat)
theorem str_data (l : List Nat) : (str l).data.toList = l.map fun c => UInt8.ofNat c := by
  unfold str; rw [strOfNums_data, List.map_map]; rfl
theorem str_toList (l : List Nat) : (str l).toList = l.map fun c => UInt8.ofNat c := by
  unfold str strOfNums; rw [toList_mk1, List.map_map]; rfl
theorem str_size (l : List Nat) : (str l).size = l.length := by unfold str; rw [strOfNums_size, List.length_map]
theorem str_get (l : List Nat) (hs : Small l) (i : Nat) (h : i < (str l).size) : ((str l)[i]'h).toNat = l.getD i 0 := by
  have hi : i < l.length := by rwa [str_size] at h
  have h2 := hs i hi
  have e : (str l)[i]'h = ((str l).data.toList)[i]'(by rw [str_data, List.length_map]; exact hi) := rfl
  rw [e]
  have e2 : ((str l).data.toList)[i]'(by rw [str_data, List.length_map]; exact hi) = (l.map fun c => UInt8.ofNat c)[i]'(by rw [List.length_map]; exact hi) := by
    simp only [str_data]
  rw [List.getD_eq_getElem?_getD, List.getElem?_eq_getElem hi] at h2 ⊢
  rw [e2, List.getElem_map, UInt8.toNat_ofNat']
  exact Nat.mod_eq_of_lt h2
theorem str_tail (l : List Nat) : (str l).extract 1 l.length = str (l.drop 1) := by
  have e : ((str l).extract 1 l.length).data.toList = (str (l.drop 1)).data.toList := by
    rw [ByteArray.data_extract, str_data, Array.toList_extract, str_data]
    rw [List.extract_eq_drop_take', List.map_drop, List.take_of_length_le (by simp)]
  have e2 : ((str l).extract 1 l.length).data = (str (l.drop 1)).data := Array.toList_inj.1 e
  cases h1 : (str l).extract 1 l.length with
  | mk x =>
    cases h2 : str (l.drop 1) with
    | mk y => rw [h1, h2] at e2; exact congrArg ByteArray.mk e2
theorem str_nil : str [] = ⟨#[]⟩ := rfl
theorem str_same (l m : List Nat) (hs : Small l) (hm : Small m) : ((str l).toList == (str m).toList) = decide (l = m) := strs_eq l m hs hm

theorem _root_.Larder.Digs.small {l : List Nat} (h : Larder.Digs l) : Small l := fun i hi => by
  have := (h i hi).2
  omega

theorem less_cons (a b : Nat) (x y : List UInt8) (ha : a < 256) (hb : b < 256) : Op.bytesLess (UInt8.ofNat a :: x) (UInt8.ofNat b :: y) = (decide (a < b) || (decide (a = b) && Op.bytesLess x y)) := by
  have h1 : (UInt8.ofNat a < UInt8.ofNat b) ↔ a < b := by
    rw [UInt8.lt_iff_toNat_lt, UInt8.toNat_ofNat', UInt8.toNat_ofNat', Nat.mod_eq_of_lt ha, Nat.mod_eq_of_lt hb]
  have h2 : (UInt8.ofNat a = UInt8.ofNat b) ↔ a = b := by
    constructor
    · intro e
      have e2 := congrArg UInt8.toNat e
      rw [UInt8.toNat_ofNat', UInt8.toNat_ofNat', Nat.mod_eq_of_lt ha, Nat.mod_eq_of_lt hb] at e2
      exact e2
    · intro e; rw [e]
  have h3 : (UInt8.ofNat a == UInt8.ofNat b) = decide (a = b) := by
    rw [Bool.eq_iff_iff, beq_iff_eq, decide_eq_true_iff]; exact h2
  rw [Op.bytesLess, h3, decide_eq_decide.2 h1]

/-- the number of digits behind a number p -/
def val : Nat → List Nat → Nat
  | p, [] => p
  | p, c :: l => val (10 * p + (c - 48)) l
theorem _root_.Larder.Digs.tail {a : Nat} {l : List Nat} (h : Larder.Digs (a :: l)) : Larder.isDigit a ∧ Larder.Digs l :=
  ⟨h 0 (by simp), fun i hi => by have := h (i + 1) (by simpa using hi); simpa using this⟩
theorem val_lt : ∀ (l m : List Nat), Larder.Digs l → Larder.Digs m → l.length = m.length → ∀ p q : Nat, p < q → val p l < val q m
  | [], [], _, _, _, p, q, h => h
  | [], _ :: _, _, _, hlen, _, _, _ => by simp at hlen
  | _ :: _, [], _, _, hlen, _, _, _ => by simp at hlen
  | a :: l, b :: m, hl, hm, hlen, p, q, h => by
    have ha := hl.tail
    have hb := hm.tail
    have ha1 := ha.1
    have hb1 := hb.1
    unfold Larder.isDigit at ha1 hb1
    exact val_lt l m ha.2 hb.2 (by simpa using hlen) _ _ (by omega)
/-- texts of digits of one length stand as their numbers stand -/
theorem less_val : ∀ (l m : List Nat), Larder.Digs l → Larder.Digs m → l.length = m.length → ∀ p : Nat,
    (Op.bytesLess (l.map fun c => UInt8.ofNat c) (m.map fun c => UInt8.ofNat c) = true ↔ val p l < val p m)
  | [], [], _, _, _, p => by simp [Op.bytesLess]
  | [], _ :: _, _, _, hlen, _ => by simp at hlen
  | _ :: _, [], _, _, hlen, _ => by simp at hlen
  | a :: l, b :: m, hl, hm, hlen, p => by
    have ha := hl.tail
    have hb := hm.tail
    have ha1 := ha.1
    have hb1 := hb.1
    have hlen' : l.length = m.length := by simpa using hlen
    unfold Larder.isDigit at ha1 hb1
    rw [List.map_cons, List.map_cons, less_cons a b _ _ (by omega) (by omega), Bool.or_eq_true, Bool.and_eq_true, decide_eq_true_iff, decide_eq_true_iff]
    show _ ↔ val (10 * p + (a - 48)) l < val (10 * p + (b - 48)) m
    rcases Nat.lt_trichotomy a b with h | h | h
    · exact ⟨fun _ => val_lt l m ha.2 hb.2 hlen' _ _ (by omega), fun _ => .inl h⟩
    · subst h
      have ih := less_val l m ha.2 hb.2 hlen' (10 * p + (a - 48))
      exact ⟨fun h => by rcases h with h | h; · omega
                         · exact ih.1 h.2, fun h => .inr ⟨rfl, ih.2 h⟩⟩
    · have := val_lt m l hb.2 ha.2 hlen'.symm (10 * p + (b - 48)) (10 * p + (a - 48)) (by omega)
      exact ⟨fun h => by omega, fun h => by omega⟩
theorem val_numK (l : List Nat) : ∀ k, k ≤ l.length → val (Larder.numK l k) (l.drop k) = val 0 l := by
  intro k
  induction k with
  | zero => intro _; rfl
  | succ k ih =>
    intro hk
    rw [← ih (by omega), List.drop_eq_getElem_cons (show k < l.length by omega)]
    show val _ _ = val (10 * Larder.numK l k + (l[k] - 48)) (l.drop (k + 1))
    rw [Larder.numK_succ, List.getD_eq_getElem?_getD, List.getElem?_eq_getElem (show k < l.length by omega)]; rfl
theorem val_num (l : List Nat) : val 0 l = Larder.numOf l := by
  rw [← val_numK l l.length (Nat.le_refl _), List.drop_length]; rfl

theorem same_val : ∀ (l m : List Nat), Larder.Digs l → Larder.Digs m → l.length = m.length → ∀ p q : Nat, val p l = val q m → l = m ∧ p = q
  | [], [], _, _, _, p, q, h => ⟨rfl, h⟩
  | [], _ :: _, _, _, hlen, _, _, _ => by simp at hlen
  | _ :: _, [], _, _, hlen, _, _, _ => by simp at hlen
  | a :: l, b :: m, hl, hm, hlen, p, q, h => by
    have ha := hl.tail
    have hb := hm.tail
    have ha1 := ha.1
    have hb1 := hb.1
    unfold Larder.isDigit at ha1 hb1
    obtain ⟨rfl, e⟩ := same_val l m ha.2 hb.2 (by simpa using hlen) _ _ h
    have e1 : a = b := by omega
    exact ⟨by rw [e1], by omega⟩
theorem same_num (l m : List Nat) (hl : Larder.Digs l) (hm : Larder.Digs m) (hlen : l.length = m.length) (h : Larder.numOf l = Larder.numOf m) : l = m := by
  rw [← val_num, ← val_num] at h
  exact (same_val l m hl hm hlen 0 0 h).1

/-- 'greater' of two texts of digits of one length -/
theorem str_more (l m : List Nat) (hl : Larder.Digs l) (hm : Larder.Digs m) (hlen : l.length = m.length) :
    (!(Op.bytesLess (str l).toList (str m).toList || (str l).toList == (str m).toList)) = decide (Larder.numOf m < Larder.numOf l) := by
  have h1 := less_val l m hl hm hlen 0
  have h2 := less_val m l hm hl hlen.symm 0
  rw [val_num, val_num] at h1 h2
  rw [str_same l m hl.small hm.small, Bool.eq_iff_iff, decide_eq_true_iff, str_toList, str_toList]
  rw [Bool.not_eq_true', Bool.or_eq_false_iff, decide_eq_false_iff_not, ← Bool.not_eq_true, h1]
  constructor
  · rintro ⟨h3, h4⟩
    rcases Nat.lt_or_ge (Larder.numOf m) (Larder.numOf l) with h | h
    · exact h
    · exact absurd (same_num l m hl hm hlen (by omega)) h4
  · intro h
    exact ⟨by omega, fun e => by rw [e] at h; exact Nat.lt_irrefl _ h⟩
end Go.Proofs.YtidfbelckdlbhabGreat
