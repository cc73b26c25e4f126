/- Listeners. -/
import Derived.Test.YtjmnddcombepaaaPcd
import Derived.Laws.StructEq
namespace Go.Proofs.Ytjmnddcombepaaa
open Go.ChangeShapes Go.WideShapes Go.ChangeAt Go.RowKit Go.Maps
set_option linter.unusedVariables false
set_option linter.unusedSimpArgs false
set_option maxRecDepth 100000
set_option maxHeartbeats 4000000

/-- how many connections listen to a channel -/
def cntT (S : List Key) (T : List UInt8) : Nat := (S.filter (fun k => decide (k.2 = (T, false)))).length
theorem cntT_le (S : List Key) (T : List UInt8) : cntT S T ≤ S.length := List.length_filter_le _ _
theorem cntT_snoc (S : List Key) (k : Key) (T : List UInt8) : cntT (S ++ [k]) T = cntT S T + (if k.2 = (T, false) then 1 else 0) := by
  unfold cntT
  rw [List.filter_append, List.length_append]
  by_cases h : k.2 = (T, false) <;> simp [h]
theorem cntT_perm {S L : List Key} (h : L.Perm S) (T : List UInt8) : cntT L T = cntT S T := (h.filter _).length_eq
theorem listeners_any (w : World) (p b : Nat) (D : Dt) (S : List Key) (T : List UInt8) (h : PostAt w p b D S) (hS : S.length ≤ 1099511627776) (hT : T.length ≤ 1125899906842624) :
    Calls Try.prog 16 #[.pointer (some ⟨p, 0, none⟩), .string (bs T)] w fun e w' => e = .returned (.int .i64 (cntT S T : Nat)) ∧ Hid (Below w.heap.size w w') := by
  have hown := h.map.own
  have hm := h.m
  have ME := hide (Met.start h.map)
  have MA := hide h.map
  clear h
  go_enter Try.func16, Try.ntmps16
  go_wp2_with (first
    | (at_range; refine wpList_range_own _ rfl _ 69 rfl 77 74 lawK Try.underlying69 _ b S.length D rfl hown ?_; intro w0 hrg0 hg0 hs0))
  go_frame
  go_loopw [5] (fun v wr => ∃ (L : List Key) (left : Lit → Bool) (cnt : Nat), v = .int .i64 ((cntT L T : Nat) : Int) ∧ Hid (Met S left L) ∧ wr.ranges Try.prog 77 unitElem b w.heap.size S.length D left cnt ∧ Hid (Below w.heap.size w wr)) (fun _ wr => wr.rangeLeft b w.heap.size)
  case atStart => exact ⟨[], _, _, rfl, ME, hrg0, hide ((Below.refl _ _).grown hg0 (Nat.le_refl _) (fun j hj => by cases hj))⟩
  case round =>
    obtain ⟨L, left, cnt, rfl, HM, hrg, HB⟩ := hrel
    have hle := cntT_le L T
    have hLS := (unhide HM).len
    clear hs0 hrg0 hg0 hown
    go_wp2_with (first
      | (at_next; refine wpList_next_post _ rfl _ rfl b w.heap.size S.length _ _ _ rfl hrg ?_ ?_))
    · intro hl0
      have hpm := hide ((unhide HM).perm (unhide MA).nd (unhide MA).ok (unhide hl0))
      go_wp2
      go_ret
      exact ⟨by rw [cntT_perm (unhide hpm)]; rfl, HB⟩
    · intro kc kt kp w1 cnt1 hk hrg1 hlt hen
      have HS := hide ((unhide HM).step (unhide hk).1 (unhide hk).2.1)
      have HB1 := hide ((unhide HB).grown (unhide hk).2.2 (unhide HB).size (fun j hj => by cases hj; exact Nat.le_refl _))
      have hL1 := (unhide HS).1.len
      rw [List.length_append] at hL1
      simp only [List.length_cons, List.length_nil] at hL1
      have HC : Hid (cntT (L ++ [(kc, kt, kp.b)]) T = cntT L T + (if (kt, kp.b) = (T, false) then 1 else 0)) := hide (cntT_snoc L (kc, kt, kp.b) T)
      have hk2 : KOk (kc, T, false) := ⟨(unhide hk).1.1, by show T.length ≤ maxLen; unfold maxLen; omega⟩
      have heq : ∀ W, (Op.equalIn 10000 77 (.agg #[.int .i64 kc, .string (bs kt), .bool kp.b]) (.agg #[.int .i64 kc, .string (bs T), .bool false])).run Try.prog W = .ok (decide ((kc, kt, kp.b) = (kc, T, false))) W := fun W => key_eq (unhide hk).1 hk2 W
      clear hk2
      by_cases e : (kt, kp.b) = (T, false)
      · have f1 : decide ((kc, kt, kp.b) = (kc, T, false)) = true := decide_eq_true (by rw [e])
        rw [f1] at heq
        have He := hide e
        clear e f1
        go_wp2
        all_goals go_roundw
        case rel => exact ⟨L ++ [(kc, kt, kp.b)], _, cnt1, by rw [unhide HC, if_pos (unhide He)]; simp, hide (unhide HS).1, (unhide hrg1).alloc _, hide ((unhide HB1).alloc (unhide HB1).size _)⟩
        case measure => rw [((unhide hrg1).alloc _).left_eq, hrg.left_eq]; exact hlt
      · have f1 : decide ((kc, kt, kp.b) = (kc, T, false)) = false := decide_eq_false (fun e2 => e (Prod.mk.inj e2).2)
        rw [f1] at heq
        have He := hide e
        clear e f1
        go_wp2
        all_goals go_roundw
        case rel => exact ⟨L ++ [(kc, kt, kp.b)], _, cnt1, by rw [unhide HC, if_neg (unhide He)]; simp, hide (unhide HS).1, (unhide hrg1).alloc _, hide ((unhide HB1).alloc (unhide HB1).size _)⟩
        case measure => rw [((unhide hrg1).alloc _).left_eq, hrg.left_eq]; exact hlt
end Go.Proofs.Ytjmnddcombepaaa
