/- The document's Uint. -/
import Derived.Test.YtecfgbjnjgjkoaaGreatDoorSame
import Derived.Test.YtecfgbjnjgjkoaaGreatDoorNumMath
import Derived.Test.YtecfgbjnjgjkoaaGreatDoorNumber
namespace Go.Proofs.YtecfgbjnjgjkoaaGreatDoor
open Go.ChangeShapes Go.WideShapes Go.ChangeAt Go.RowKit
set_option linter.unusedVariables false

/-- the text that bytes spell -/
def str (l : List Nat) : ByteArray := strOfNums (l.map Int.ofNat)
theorem str_data (l : List Nat) : (str l).data.toList = l.map fun c => UInt8.ofNat c := by
  unfold str; rw [strOfNums_data, List.map_map]; rfl
theorem str_toList (l : List Nat) : (str l).toList = l.map fun c => UInt8.ofNat c := by
  unfold str strOfNums; rw [toList_mk1, List.map_map]; rfl
theorem str_size (l : List Nat) : (str l).size = l.length := by unfold str; rw [strOfNums_size, List.length_map]
theorem str_get (l : List Nat) (hs : Small l) (i : Nat) (h : i < (str l).size) : ((str l)[i]'h).toNat = l.getD i 0 := by
  have hi : i < l.length := by rwa [str_size] at h
  have h2 := hs i hi
  have e : (str l)[i]'h = ((str l).data.toList)[i]'(by rw [str_data, List.length_map]; exact hi) := rfl
  rw [e]
  have e2 : ((str l).data.toList)[i]'(by rw [str_data, List.length_map]; exact hi) = (l.map fun c => UInt8.ofNat c)[i]'(by rw [List.length_map]; exact hi) := by
    simp only [str_data]
  rw [List.getD_eq_getElem?_getD, List.getElem?_eq_getElem hi] at h2 ⊢
  rw [e2, List.getElem_map, UInt8.toNat_ofNat']
  exact Nat.mod_eq_of_lt h2
theorem str_tail (l : List Nat) : (str l).extract 1 l.length = str (l.drop 1) := by
  have e : ((str l).extract 1 l.length).data.toList = (str (l.drop 1)).data.toList := by
    rw [ByteArray.data_extract, str_data, Array.toList_extract, str_data]
    rw [List.extract_eq_drop_take', List.map_drop, List.take_of_length_le (by simp)]
  have e2 : ((str l).extract 1 l.length).data = (str (l.drop 1)).data := Array.toList_inj.1 e
  cases h1 : (str l).extract 1 l.length with
  | mk x =>
    cases h2 : str (l.drop 1) with
    | mk y => rw [h1, h2] at e2; exact congrArg ByteArray.mk e2
theorem str_nil : str [] = ⟨#[]⟩ := rfl
theorem str_same (l m : List Nat) (hs : Small l) (hm : Small m) : ((str l).toList == (str m).toList) = decide (l = m) := strs_eq l m hs hm

theorem _root_.Larder.Digs.small {l : List Nat} (h : Larder.Digs l) : Small l := fun i hi => by
  have := (h i hi).2
  omega

theorem less_cons (a b : Nat) (x y : List UInt8) (ha : a < 256) (hb : b < 256) : Op.bytesLess (UInt8.ofNat a :: x) (UInt8.ofNat b :: y) = (decide (a < b) || (decide (a = b) && Op.bytesLess x y)) := by
  have h1 : (UInt8.ofNat a < UInt8.ofNat b) ↔ a < b := by
    rw [UInt8.lt_iff_toNat_lt, UInt8.toNat_ofNat', UInt8.toNat_ofNat', Nat.mod_eq_of_lt ha, Nat.mod_eq_of_lt hb]
  have h2 : (UInt8.ofNat a = UInt8.ofNat b) ↔ a = b := by
    constructor
    · intro e
      have e2 := congrArg UInt8.toNat e
      rw [UInt8.toNat_ofNat', UInt8.toNat_ofNat', Nat.mod_eq_of_lt ha, Nat.mod_eq_of_lt hb] at e2
      exact e2
    · intro e; rw [e]
  have h3 : (UInt8.ofNat a == UInt8.ofNat b) = decide (a = b) := by
    rw [Bool.eq_iff_iff, beq_iff_eq, decide_eq_true_iff]; exact h2
  rw [Op.bytesLess, h3, decide_eq_decide.2 h1]

/-- the number of digits behind a number p -/
def val : Nat → List Nat → Nat
  | p, [] => p
  | p, c :: l => val (10 * p + (c - 48)) l
theorem _root_.Larder.Digs.tail {a : Nat} {l : List Nat} (h : Larder.Digs (a :: l)) : Larder.isDigit a ∧ Larder.Digs l :=
  ⟨h 0 (by simp), fun i hi => by have := h (i + 1) (by simpa using hi); simpa using this⟩
theorem val_lt : ∀ (l m : List Nat), Larder.Digs l → Larder.Digs m → l.length = m.length → ∀ p q : Nat, p < q → val p l < val q m
  | [], [], _, _, _, p, q, h => h
  | [], _ :: _, _, _, hlen, _, _, _ => by simp at hlen
  | _ :: _, [], _, _, hlen, _, _, _ => by simp at hlen
  | a :: l, b :: m, hl, hm, hlen, p, q, h => by
    have ha := hl.tail
    have hb := hm.tail
    have ha1 := ha.1
    have hb1 := hb.1
    unfold Larder.isDigit at ha1 hb1
    exact val_lt l m ha.2 hb.2 (by simpa using hlen) _ _ (by omega)
/-- texts of digits of one length stand as their numbers stand -/
theorem less_val : ∀ (l m : List Nat), Larder.Digs l → Larder.Digs m → l.length = m.length → ∀ p : Nat,
    (Op.bytesLess (l.map fun c => UInt8.ofNat c) (m.map fun c => UInt8.ofNat c) = true ↔ val p l < val p m)
  | [], [], _, _, _, p => by simp [Op.bytesLess]
  | [], _ :: _, _, _, hlen, _ => by simp at hlen
  | _ :: _, [], _, _, hlen, _ => by simp at hlen
  | a :: l, b :: m, hl, hm, hlen, p => by
    have ha := hl.tail
    have hb := hm.tail
    have ha1 := ha.1
    have hb1 := hb.1
    have hlen' : l.length = m.length := by simpa using hlen
    unfold Larder.isDigit at ha1 hb1
    rw [List.map_cons, List.map_cons, less_cons a b _ _ (by omega) (by omega), Bool.or_eq_true, Bool.and_eq_true, decide_eq_true_iff, decide_eq_true_iff]
    show _ ↔ val (10 * p + (a - 48)) l < val (10 * p + (b - 48)) m
    rcases Nat.lt_trichotomy a b with h | h | h
    · exact ⟨fun _ => val_lt l m ha.2 hb.2 hlen' _ _ (by omega), fun _ => .inl h⟩
    · subst h
      have ih := less_val l m ha.2 hb.2 hlen' (10 * p + (a - 48))
      exact ⟨fun h => by rcases h with h | h; · omega
                         · exact ih.1 h.2, fun h => .inr ⟨rfl, ih.2 h⟩⟩
    · have := val_lt m l hb.2 ha.2 hlen'.symm (10 * p + (b - 48)) (10 * p + (a - 48)) (by omega)
      exact ⟨fun h => by omega, fun h => by omega⟩
theorem val_numK (l : List Nat) : ∀ k, k ≤ l.length → val (Larder.numK l k) (l.drop k) = val 0 l := by
  intro k
  induction k with
  | zero => intro _; rfl
  | succ k ih =>
    intro hk
    rw [← ih (by omega), List.drop_eq_getElem_cons (show k < l.length by omega)]
    show val _ _ = val (10 * Larder.numK l k + (l[k] - 48)) (l.drop (k + 1))
    rw [Larder.numK_succ, List.getD_eq_getElem?_getD, List.getElem?_eq_getElem (show k < l.length by omega)]; rfl
theorem val_num (l : List Nat) : val 0 l = Larder.numOf l := by
  rw [← val_numK l l.length (Nat.le_refl _), List.drop_length]; rfl

theorem same_val : ∀ (l m : List Nat), Larder.Digs l → Larder.Digs m → l.length = m.length → ∀ p q : Nat, val p l = val q m → l = m ∧ p = q
  | [], [], _, _, _, p, q, h => ⟨rfl, h⟩
  | [], _ :: _, _, _, hlen, _, _, _ => by simp at hlen
  | _ :: _, [], _, _, hlen, _, _, _ => by simp at hlen
  | a :: l, b :: m, hl, hm, hlen, p, q, h => by
    have ha := hl.tail
    have hb := hm.tail
    have ha1 := ha.1
    have hb1 := hb.1
    unfold Larder.isDigit at ha1 hb1
    obtain ⟨rfl, e⟩ := same_val l m ha.2 hb.2 (by simpa using hlen) _ _ h
    have e1 : a = b := by omega
    exact ⟨by rw [e1], by omega⟩
theorem same_num (l m : List Nat) (hl : Larder.Digs l) (hm : Larder.Digs m) (hlen : l.length = m.length) (h : Larder.numOf l = Larder.numOf m) : l = m := by
  rw [← val_num, ← val_num] at h
  exact (same_val l m hl hm hlen 0 0 h).1

/-- 'greater' of two texts of digits of one length -/
theorem str_more (l m : List Nat) (hl : Larder.Digs l) (hm : Larder.Digs m) (hlen : l.length = m.length) :
    (!(Op.bytesLess (str l).toList (str m).toList || (str l).toList == (str m).toList)) = decide (Larder.numOf m < Larder.numOf l) := by
  have h1 := less_val l m hl hm hlen 0
  have h2 := less_val m l hm hl hlen.symm 0
  rw [val_num, val_num] at h1 h2
  rw [str_same l m hl.small hm.small, Bool.eq_iff_iff, decide_eq_true_iff, str_toList, str_toList]
  rw [Bool.not_eq_true', Bool.or_eq_false_iff, decide_eq_false_iff_not, ← Bool.not_eq_true, h1]
  constructor
  · rintro ⟨h3, h4⟩
    rcases Nat.lt_or_ge (Larder.numOf m) (Larder.numOf l) with h | h
    · exact h
    · exact absurd (same_num l m hl hm hlen (by omega)) h4
  · intro h
    exact ⟨by omega, fun e => by rw [e] at h; exact Nat.lt_irrefl _ h⟩
end Go.Proofs.YtecfgbjnjgjkoaaGreatDoor
namespace Go.Proofs.YtecfgbjnjgjkoaaGreatDoor
open Go.ChangeShapes Go.WideShapes Go.ChangeAt Go.RowKit
set_option linter.unusedVariables false
set_option maxRecDepth 20000

/-- a spelling without its sign -/
def bare (l : List Nat) : List Nat := if 1 < l.length ∧ l.getD 0 0 = 45 ∧ l.getD 1 0 ≠ 48 then l.drop 1 else l

set_option maxHeartbeats 400000 in
/-- digits, where a sign is cut off -/
theorem digits_cut (a : Option Addr) (cap : Nat) (w : World) (l : List Nat) (hl : l.length ≤ 140737488355328) (h256 : Small l) (hB : Bytes w a l) (h1 : 1 < l.length) (h2 : l.getD 0 0 = 45) (h3 : l.getD 1 0 ≠ 48) :
    Calls Tryz.prog 119 #[.slice a l.length cap] w fun e w' => ((Larder.Plain (l.drop 1) ∧ e = .returned (.tuple #[.string (str (l.drop 1)), .bool true])) ∨ (¬ Larder.Plain (l.drop 1) ∧ e = .returned (.tuple #[.string ⟨#[]⟩, .bool false]))) ∧ w' = w := by
  have hcv := conv_any a cap w l hB
  change (convert 25 9 (.slice a l.length cap)).run Tryz.prog w = .ok (.string (str l)) w at hcv
  have hsz := str_size l
  have hx0 : ∀ h, ((str l)[0]'h).toNat = 45 := fun h => by rw [str_get l h256 0 h]; exact h2
  have hx1 : ∀ h, ((str l)[1]'h).toNat = l.getD 1 0 := fun h => str_get l h256 1 h
  have hcut := str_tail l
  have hms : Small (l.drop 1) := fun i hi => by
    rw [Larder.getD_tail]; rw [List.length_drop] at hi; exact h256 (i + 1) (by omega)
  have hml : (l.drop 1).length = l.length - 1 := List.length_drop
  have HT := hide (fun k h => str_get (l.drop 1) hms k h)
  have HS := hide hms
  have hst := str_size (l.drop 1)
  have hne : (str (l.drop 1)).toList.isEmpty = false := by
    rw [str_toList, List.isEmpty_eq_false_iff]
    intro h; have := congrArg List.length h; simp at this; omega
  have hb1 := h256 1 h1
  have e3 : (((l.getD 1 0 : Nat) : Int) != 48) = true := by rw [bne_iff_ne]; omega
  clear hB hms h256
  generalize l.drop 1 = m at *
  generalize str l = S at *
  generalize hT : str m = T at *
  clear hT
  generalize l.getD 1 0 = c1 at *
  rw [hml] at hst
  have e2 : decide (1 < (l.length : Int)) = true := by simp; omega
  go_enter Tryz.func119, Tryz.ntmps119
  go_wp2
  go_loop [5] (fun i => ∃ k : Nat, k ≤ (l.length - 1) ∧ i = .int .i64 k ∧ ∀ j, j < k → Larder.isDigit (m.getD j 0)) (fun i => (l.length - 1) - (intOf i).toNat)
  case atStart => exact ⟨0, Nat.zero_le _, rfl, fun j hj => absurd hj (Nat.not_lt_zero _)⟩
  case round =>
    obtain ⟨k, hk, rfl, hpre⟩ := hrel
    have HP := hide hpre
    clear hpre
    by_cases hlt : k < (l.length - 1)
    · have hcx : ∀ h, (T[k]'h).toNat = m.getD k 0 := fun h => unhide HT k h
      have h25 := unhide HS k (by omega)
      have HN : Hid (¬ Larder.isDigit (m.getD k 0) → ¬ Larder.Plain m) := hide (by
        intro h h'; exact h (h'.2.2 k (by omega)))
      have HY : Hid (Larder.isDigit (m.getD k 0) → ∀ j, j < k + 1 → Larder.isDigit (m.getD j 0)) := hide (by
        intro h j hj
        rcases Nat.lt_succ_iff_lt_or_eq.1 hj with h' | rfl
        · exact unhide HP j h'
        · exact h)
      generalize m.getD k 0 = c at *
      by_cases q1 : c < 48
      · go_wp2
        go_ret2
        exact ⟨.inr ⟨unhide HN (fun h => absurd h.1 (by omega)), rfl⟩, rfl⟩
      · by_cases q2 : 57 < c
        · go_wp2
          go_ret2
          exact ⟨.inr ⟨unhide HN (fun h => absurd h.2 (by omega)), rfl⟩, rfl⟩
        · go_wp2
          go_round
          case rel => exact ⟨k + 1, by omega, by go_num, unhide HY ⟨by omega, by omega⟩⟩
          case measure => simp [intOf]; omega
    · have he : k = (l.length - 1) := by omega
      subst he
      have hc0 : ∀ h, (T[0]'h).toNat = m.getD 0 0 := fun h => unhide HT 0 h
      by_cases hz : m.getD 0 0 = 48
      · rw [hz] at hc0
        by_cases q : 1 < (l.length - 1)
        · first
            | (exfalso; omega)
            | (have HN : Hid (¬ Larder.Plain m) := hide (fun h => h.2.1 ⟨hz, by omega⟩)
               clear hz
               go_wp2
               go_ret2
               exact ⟨.inr ⟨unhide HN, rfl⟩, rfl⟩)
        · first
            | (exfalso; omega)
            | (have HN : Hid (Larder.Plain m) := hide ⟨by omega, fun h => q (by omega), fun j hj => unhide HP j (by omega)⟩
               clear hz
               go_wp2
               go_ret2
               exact ⟨.inl ⟨unhide HN, rfl⟩, rfl⟩)
      · have HN : Hid (Larder.Plain m) := hide ⟨by omega, fun h => hz h.1, fun j hj => unhide HP j (by omega)⟩
        have h25 := unhide HS 0 (by omega)
        generalize m.getD 0 0 = c0 at *
        go_wp2
        go_ret2
        exact ⟨.inl ⟨unhide HN, rfl⟩, rfl⟩

set_option maxHeartbeats 1000000 in
/-- digits, where nothing is cut off -/
theorem digits_whole (a : Option Addr) (cap : Nat) (w : World) (l : List Nat) (hl : l.length ≤ 140737488355328) (h256 : Small l) (hB : Bytes w a l) (hn : ¬ (1 < l.length ∧ l.getD 0 0 = 45 ∧ l.getD 1 0 ≠ 48)) :
    Calls Tryz.prog 119 #[.slice a l.length cap] w fun e w' => ((Larder.Plain l ∧ e = .returned (.tuple #[.string (str l), .bool true])) ∨ (¬ Larder.Plain l ∧ e = .returned (.tuple #[.string ⟨#[]⟩, .bool false]))) ∧ w' = w := by
  have hcv := conv_any a cap w l hB
  change (convert 25 9 (.slice a l.length cap)).run Tryz.prog w = .ok (.string (str l)) w at hcv
  have hst := str_size l
  have HT := hide (fun k h => str_get l h256 k h)
  have HS := hide h256
  by_cases h0 : l.length = 0
  · have hne : (str l).toList.isEmpty = true := by
      rw [str_toList, List.eq_nil_of_length_eq_zero h0]; rfl
    have HN : Hid (¬ Larder.Plain l) := hide (fun h => by have := h.1; omega)
    clear hB h256 hn HT HS
    generalize str l = T at *
    rw [h0] at hst hcv ⊢
    clear hl h0
    go_enter Tryz.func119, Tryz.ntmps119
    go_wp2
    go_ret2
    exact ⟨.inr ⟨unhide HN, rfl⟩, rfl⟩
  have hne : (str l).toList.isEmpty = false := by
    rw [str_toList, List.isEmpty_eq_false_iff]
    intro h; have := congrArg List.length h; rw [List.length_map] at this; exact h0 this
  clear hB
  by_cases h1 : 1 < l.length
  · have e2 : decide (1 < (l.length : Int)) = true := by simp; omega
    have hb0 := h256 0 (by omega)
    have hb1 := h256 1 h1
    have hx0 : ∀ h, ((str l)[0]'h).toNat = l.getD 0 0 := fun h => str_get l h256 0 h
    by_cases h2 : l.getD 0 0 = 45
    · have h3 : l.getD 1 0 = 48 := by omega
      have hx1 : ∀ h, ((str l)[1]'h).toNat = 48 := fun h => by rw [str_get l h256 1 h]; exact h3
      rw [h2] at hx0
      clear h256 hn hb0 hb1 h3
      generalize str l = T at *
      go_enter Tryz.func119, Tryz.ntmps119
      go_wp2
      go_loop [5] (fun i => ∃ k : Nat, k ≤ l.length ∧ i = .int .i64 k ∧ ∀ j, j < k → Larder.isDigit (l.getD j 0)) (fun i => l.length - (intOf i).toNat)
      case atStart => exact ⟨0, Nat.zero_le _, rfl, fun j hj => absurd hj (Nat.not_lt_zero _)⟩
      case round =>
        obtain ⟨k, hk, rfl, hpre⟩ := hrel
        have HP := hide hpre
        clear hpre
        by_cases hlt : k < l.length
        · have hcx : ∀ h, (T[k]'h).toNat = l.getD k 0 := fun h => unhide HT k h
          have h25 := unhide HS k (by omega)
          have HN : Hid (¬ Larder.isDigit (l.getD k 0) → ¬ Larder.Plain l) := hide (by
            intro h h'; exact h (h'.2.2 k (by omega)))
          have HY : Hid (Larder.isDigit (l.getD k 0) → ∀ j, j < k + 1 → Larder.isDigit (l.getD j 0)) := hide (by
            intro h j hj
            rcases Nat.lt_succ_iff_lt_or_eq.1 hj with h' | rfl
            · exact unhide HP j h'
            · exact h)
          generalize l.getD k 0 = c at *
          by_cases q1 : c < 48
          · go_wp2
            go_ret2
            exact ⟨.inr ⟨unhide HN (fun h => absurd h.1 (by omega)), rfl⟩, rfl⟩
          · by_cases q2 : 57 < c
            · go_wp2
              go_ret2
              exact ⟨.inr ⟨unhide HN (fun h => absurd h.2 (by omega)), rfl⟩, rfl⟩
            · go_wp2
              go_round
              case rel => exact ⟨k + 1, by omega, by go_num, unhide HY ⟨by omega, by omega⟩⟩
              case measure => simp [intOf]; omega
        · have he : k = l.length := by omega
          subst he
          have hc0 : ∀ h, (T[0]'h).toNat = l.getD 0 0 := fun h => unhide HT 0 h
          by_cases hz : l.getD 0 0 = 48
          · rw [hz] at hc0
            by_cases q : 1 < l.length
            · first
                | (exfalso; omega)
                | (have HN : Hid (¬ Larder.Plain l) := hide (fun h => h.2.1 ⟨hz, by omega⟩)
                   clear hz
                   go_wp2
                   go_ret2
                   exact ⟨.inr ⟨unhide HN, rfl⟩, rfl⟩)
            · first
                | (exfalso; omega)
                | (have HN : Hid (Larder.Plain l) := hide ⟨by omega, fun h => q (by omega), fun j hj => unhide HP j (by omega)⟩
                   clear hz
                   go_wp2
                   go_ret2
                   exact ⟨.inl ⟨unhide HN, rfl⟩, rfl⟩)
          · have HN : Hid (Larder.Plain l) := hide ⟨by omega, fun h => hz h.1, fun j hj => unhide HP j (by omega)⟩
            have h25 := unhide HS 0 (by omega)
            generalize l.getD 0 0 = c0 at *
            go_wp2
            go_ret2
            exact ⟨.inl ⟨unhide HN, rfl⟩, rfl⟩
    · have e3 : (((l.getD 0 0 : Nat) : Int) == 45) = false := by rw [beq_eq_false_iff_ne]; omega
      clear h256 hn hb1
      generalize str l = T at *
      have HH := hide h2
      generalize l.getD 0 0 = c0 at hx0 e3 hb0 h2
      go_enter Tryz.func119, Tryz.ntmps119
      go_wp2
      clear hx0 e3 hb0 h2
      go_loop [5] (fun i => ∃ k : Nat, k ≤ l.length ∧ i = .int .i64 k ∧ ∀ j, j < k → Larder.isDigit (l.getD j 0)) (fun i => l.length - (intOf i).toNat)
      case atStart => exact ⟨0, Nat.zero_le _, rfl, fun j hj => absurd hj (Nat.not_lt_zero _)⟩
      case round =>
        obtain ⟨k, hk, rfl, hpre⟩ := hrel
        have HP := hide hpre
        clear hpre
        by_cases hlt : k < l.length
        · have hcx : ∀ h, (T[k]'h).toNat = l.getD k 0 := fun h => unhide HT k h
          have h25 := unhide HS k (by omega)
          have HN : Hid (¬ Larder.isDigit (l.getD k 0) → ¬ Larder.Plain l) := hide (by
            intro h h'; exact h (h'.2.2 k (by omega)))
          have HY : Hid (Larder.isDigit (l.getD k 0) → ∀ j, j < k + 1 → Larder.isDigit (l.getD j 0)) := hide (by
            intro h j hj
            rcases Nat.lt_succ_iff_lt_or_eq.1 hj with h' | rfl
            · exact unhide HP j h'
            · exact h)
          generalize l.getD k 0 = c at *
          by_cases q1 : c < 48
          · go_wp2
            go_ret2
            exact ⟨.inr ⟨unhide HN (fun h => absurd h.1 (by omega)), rfl⟩, rfl⟩
          · by_cases q2 : 57 < c
            · go_wp2
              go_ret2
              exact ⟨.inr ⟨unhide HN (fun h => absurd h.2 (by omega)), rfl⟩, rfl⟩
            · go_wp2
              go_round
              case rel => exact ⟨k + 1, by omega, by go_num, unhide HY ⟨by omega, by omega⟩⟩
              case measure => simp [intOf]; omega
        · have he : k = l.length := by omega
          subst he
          have hc0 : ∀ h, (T[0]'h).toNat = l.getD 0 0 := fun h => unhide HT 0 h
          by_cases hz : l.getD 0 0 = 48
          · rw [hz] at hc0
            by_cases q : 1 < l.length
            · first
                | (exfalso; omega)
                | (have HN : Hid (¬ Larder.Plain l) := hide (fun h => h.2.1 ⟨hz, by omega⟩)
                   clear hz
                   go_wp2
                   go_ret2
                   exact ⟨.inr ⟨unhide HN, rfl⟩, rfl⟩)
            · first
                | (exfalso; omega)
                | (have HN : Hid (Larder.Plain l) := hide ⟨by omega, fun h => q (by omega), fun j hj => unhide HP j (by omega)⟩
                   clear hz
                   go_wp2
                   go_ret2
                   exact ⟨.inl ⟨unhide HN, rfl⟩, rfl⟩)
          · have HN : Hid (Larder.Plain l) := hide ⟨by omega, fun h => hz h.1, fun j hj => unhide HP j (by omega)⟩
            have h25 := unhide HS 0 (by omega)
            generalize l.getD 0 0 = c0 at *
            go_wp2
            go_ret2
            exact ⟨.inl ⟨unhide HN, rfl⟩, rfl⟩
  · have e2 : decide (1 < (l.length : Int)) = false := by simp; omega
    clear h256 hn
    generalize str l = T at *
    go_enter Tryz.func119, Tryz.ntmps119
    go_wp2
    go_loop [5] (fun i => ∃ k : Nat, k ≤ l.length ∧ i = .int .i64 k ∧ ∀ j, j < k → Larder.isDigit (l.getD j 0)) (fun i => l.length - (intOf i).toNat)
    case atStart => exact ⟨0, Nat.zero_le _, rfl, fun j hj => absurd hj (Nat.not_lt_zero _)⟩
    case round =>
      obtain ⟨k, hk, rfl, hpre⟩ := hrel
      have HP := hide hpre
      clear hpre
      by_cases hlt : k < l.length
      · have hcx : ∀ h, (T[k]'h).toNat = l.getD k 0 := fun h => unhide HT k h
        have h25 := unhide HS k (by omega)
        have HN : Hid (¬ Larder.isDigit (l.getD k 0) → ¬ Larder.Plain l) := hide (by
          intro h h'; exact h (h'.2.2 k (by omega)))
        have HY : Hid (Larder.isDigit (l.getD k 0) → ∀ j, j < k + 1 → Larder.isDigit (l.getD j 0)) := hide (by
          intro h j hj
          rcases Nat.lt_succ_iff_lt_or_eq.1 hj with h' | rfl
          · exact unhide HP j h'
          · exact h)
        generalize l.getD k 0 = c at *
        by_cases q1 : c < 48
        · go_wp2
          go_ret2
          exact ⟨.inr ⟨unhide HN (fun h => absurd h.1 (by omega)), rfl⟩, rfl⟩
        · by_cases q2 : 57 < c
          · go_wp2
            go_ret2
            exact ⟨.inr ⟨unhide HN (fun h => absurd h.2 (by omega)), rfl⟩, rfl⟩
          · go_wp2
            go_round
            case rel => exact ⟨k + 1, by omega, by go_num, unhide HY ⟨by omega, by omega⟩⟩
            case measure => simp [intOf]; omega
      · have he : k = l.length := by omega
        subst he
        have hc0 : ∀ h, (T[0]'h).toNat = l.getD 0 0 := fun h => unhide HT 0 h
        by_cases hz : l.getD 0 0 = 48
        · rw [hz] at hc0
          by_cases q : 1 < l.length
          · first
              | (exfalso; omega)
              | (have HN : Hid (¬ Larder.Plain l) := hide (fun h => h.2.1 ⟨hz, by omega⟩)
                 clear hz
                 go_wp2
                 go_ret2
                 exact ⟨.inr ⟨unhide HN, rfl⟩, rfl⟩)
          · first
              | (exfalso; omega)
              | (have HN : Hid (Larder.Plain l) := hide ⟨by omega, fun h => q (by omega), fun j hj => unhide HP j (by omega)⟩
                 clear hz
                 go_wp2
                 go_ret2
                 exact ⟨.inl ⟨unhide HN, rfl⟩, rfl⟩)
        · have HN : Hid (Larder.Plain l) := hide ⟨by omega, fun h => hz h.1, fun j hj => unhide HP j (by omega)⟩
          have h25 := unhide HS 0 (by omega)
          generalize l.getD 0 0 = c0 at *
          go_wp2
          go_ret2
          exact ⟨.inl ⟨unhide HN, rfl⟩, rfl⟩
end Go.Proofs.YtecfgbjnjgjkoaaGreatDoor
namespace Go.Proofs.YtecfgbjnjgjkoaaGreatDoor
open Go.ChangeShapes Go.WideShapes Go.ChangeAt Go.RowKit
set_option linter.unusedVariables false
theorem digits_plain (a : Option Addr) (cap : Nat) (w : World) (l : List Nat) (hl : l.length ≤ 140737488355328) (hB : Bytes w a l) (hp : Larder.Plain l) :
    Calls Tryz.prog 119 #[.slice a l.length cap] w fun e w' => e = .returned (.tuple #[.string (str l), .bool true]) ∧ w' = w := by
  have hd := hp.2.2 0 hp.1
  refine (digits_whole a cap w l hl hp.2.2.small hB (fun h => by have := hd.1; omega)).mono ?_
  rintro e w' ⟨h | h, rfl⟩
  · exact ⟨h.2, rfl⟩
  · exact absurd hp h.1

/-- digits, of no spelling -/
theorem digits_none (a : Option Addr) (cap : Nat) (w : World) (l : List Nat) (hl : l.length ≤ 140737488355328) (h256 : Small l) (hB : Bytes w a l) (hp : ¬ Larder.Plain (bare l)) :
    Calls Tryz.prog 119 #[.slice a l.length cap] w fun e w' => e = .returned (.tuple #[.string ⟨#[]⟩, .bool false]) ∧ w' = w := by
  unfold bare at hp
  by_cases hc : 1 < l.length ∧ l.getD 0 0 = 45 ∧ l.getD 1 0 ≠ 48
  · rw [if_pos hc] at hp
    refine (digits_cut a cap w l hl h256 hB hc.1 hc.2.1 hc.2.2).mono ?_
    rintro e w' ⟨h | h, rfl⟩
    · exact absurd h.1 hp
    · exact ⟨h.2, rfl⟩
  · rw [if_neg hc] at hp
    refine (digits_whole a cap w l hl h256 hB hc).mono ?_
    rintro e w' ⟨h | h, rfl⟩
    · exact absurd h.1 hp
    · exact ⟨h.2, rfl⟩
/-- digits, of a spelling -/
theorem digits_some (a : Option Addr) (cap : Nat) (w : World) (l : List Nat) (hl : l.length ≤ 140737488355328) (h256 : Small l) (hB : Bytes w a l) (hp : Larder.Plain (bare l)) :
    Calls Tryz.prog 119 #[.slice a l.length cap] w fun e w' => e = .returned (.tuple #[.string (str (bare l)), .bool true]) ∧ w' = w := by
  unfold bare at hp ⊢
  by_cases hc : 1 < l.length ∧ l.getD 0 0 = 45 ∧ l.getD 1 0 ≠ 48
  · rw [if_pos hc] at hp ⊢
    refine (digits_cut a cap w l hl h256 hB hc.1 hc.2.1 hc.2.2).mono ?_
    rintro e w' ⟨h | h, rfl⟩
    · exact ⟨h.2, rfl⟩
    · exact absurd hp h.1
  · rw [if_neg hc] at hp ⊢
    refine (digits_whole a cap w l hl h256 hB hc).mono ?_
    rintro e w' ⟨h | h, rfl⟩
    · exact ⟨h.2, rfl⟩
    · exact absurd hp h.1

theorem not_plain_sign (l : List Nat) (h : l.getD 0 0 = 45) : ¬ Larder.Plain l := fun hp => by
  have := (hp.2.2 0 hp.1).1
  omega

theorem bytes_at {w : World} {a : Option Addr} {l : List Nat} (hB : Bytes w a l) (h : 0 < l.length) : ∃ b off, a = some ⟨b, off, none⟩ := by
  rcases hB with rfl | ⟨b, off, e, _⟩
  · simp at h
  · exact ⟨b, off, e⟩

end Go.Proofs.YtecfgbjnjgjkoaaGreatDoor
