/- Orders: byTurn, byTime. -/
import Derived.Test.YtfebiemfmiahhaaKj
namespace Go.Proofs.Ytfebiemfmiahhaa
open Go.ChangeShapes Go.WideShapes Go.ChangeAt Go.RowKit Go.Maps
set_option linter.unusedVariables false
set_option linter.unusedSimpArgs false
set_option maxRecDepth 100000
set_option maxHeartbeats 8000000
/-- a waiter's cells -/
abbrev W5 := Int × Int × Int × Option Addr × Nat × Nat × Int
def enc5 (x : W5) : List Value := [.int .i64 x.1, .int .u64 x.2.1, .int .i64 x.2.2.1, .slice x.2.2.2.1 x.2.2.2.2.1 x.2.2.2.2.2.1, .int .u64 x.2.2.2.2.2.2]
def w5 (e : En) : W5 := ((e.x.conn : Nat), (e.turn : Nat), e.x.kind, some ⟨e.g, 0, none⟩, e.x.places.length, e.x.places.length, (e.x.till : Nat))
theorem enV_enc (e : En) : enV e = .agg (enc5 (w5 e)).toArray := rfl
def cmpZ (a b : Int) : Int := if a < b then -1 else if b < a then 1 else 0
def cfTurn (x y : W5) : Int := cmpZ x.2.1 y.2.1
def cfTime (x y : W5) : Int := if cmpZ x.2.2.2.2.2.2 y.2.2.2.2.2.2 ≠ 0 then cmpZ x.2.2.2.2.2.2 y.2.2.2.2.2.2 else cfTurn x y
/-- only new blocks, only draws -/
def Gw (w w' : World) : Prop := ∃ q os, w' = Sort.grow (w.drewN q) os
theorem Gw.refl (w : World) : Gw w w := ⟨0, #[], by simp [Sort.grow, World.drewN]⟩
theorem Gw.alloc {w w' : World} (h : Gw w w') (o : Obj) : Gw w (w'.alloc o) := by
  obtain ⟨q, os, rfl⟩ := h
  exact ⟨q, _, by rw [Sort.alloc_eq_grow, Sort.grow_grow]⟩
theorem Gw.drew {w w' : World} (h : Gw w w') : Gw w w'.drew := by
  obtain ⟨q, os, rfl⟩ := h
  exact ⟨q + 1, os, rfl⟩
theorem Gw.trans {w w' w'' : World} (h : Gw w w') (k : Gw w' w'') : Gw w w'' := by
  obtain ⟨q, os, rfl⟩ := h
  obtain ⟨q', os', rfl⟩ := k
  refine ⟨q + q', os ++ os', ?_⟩
  simp [Sort.grow, World.drewN, Nat.add_assoc]
theorem Gw.below {w w' : World} (h : Gw w w') : Below w.heap.size w w' := by
  obtain ⟨q, os, rfl⟩ := h
  refine ⟨rfl, rfl, rfl, by simp [Sort.grow, World.drewN], fun i hi => ?_⟩
  simp [Sort.grow, World.drewN, Array.getElem?_append_left hi]
theorem nan_any (w : World) (a : Int) : Calls Try.prog 57 #[.int .u64 a] w fun e w' => e = .returned (.bool false) ∧ w' = w := by
  have f : (a != a) = false := by simp
  go_enter Try.func57, Try.ntmps57
  go_wp2
  go_ret
  exact ⟨rfl, rfl⟩
theorem cmp_any (w : World) (a b : Int) : Calls Try.prog 39 #[.int .u64 a, .int .u64 b] w fun e w' => e = .returned (.int .i64 (cmpZ a b)) ∧ w' = w := by
  have CN : Hid (∀ x, Calls Try.prog 57 #[.int .u64 x] w fun e w' => e = .returned (.bool false) ∧ w' = w) := hide (fun x => nan_any w x)
  unfold cmpZ
  by_cases h1 : a < b
  · rw [if_pos h1]
    have f1 : decide (a < b) = true := decide_eq_true h1
    go_enter Try.func39, Try.ntmps39
    go_wp2_with (first | (go_at_call 57; with_reducible refine (unhide CN _).mono ?_; rintro e w1 ⟨rfl, h⟩; obtain rfl := h.symm))
    go_ret
    exact ⟨rfl, rfl⟩
  · rw [if_neg h1]
    have f1 : decide (a < b) = false := decide_eq_false h1
    by_cases h2 : b < a
    · rw [if_pos h2]
      have f2 : decide (b < a) = true := decide_eq_true h2
      have f3 : decide (a > b) = true := decide_eq_true h2
      go_enter Try.func39, Try.ntmps39
      go_wp2_with (first | (go_at_call 57; with_reducible refine (unhide CN _).mono ?_; rintro e w1 ⟨rfl, h⟩; obtain rfl := h.symm))
      go_ret
      exact ⟨rfl, rfl⟩
    · rw [if_neg h2]
      have f2 : decide (b < a) = false := decide_eq_false h2
      have f3 : decide (a > b) = false := decide_eq_false h2
      go_enter Try.func39, Try.ntmps39
      go_wp2_with (first | (go_at_call 57; with_reducible refine (unhide CN _).mono ?_; rintro e w1 ⟨rfl, h⟩; obtain rfl := h.symm))
      go_ret
      exact ⟨rfl, rfl⟩
theorem byTurn_any (w : World) (x y : W5) : Calls Try.prog 24 #[.agg (enc5 x).toArray, .agg (enc5 y).toArray] w fun e w' => e = .returned (.int .i64 (cfTurn x y)) ∧ Gw w w' := by
  obtain ⟨a1, a2, a3, a4, a5, a6, a7⟩ := x
  obtain ⟨b1, b2, b3, b4, b5, b6, b7⟩ := y
  have CC : Hid (∀ W, Calls Try.prog 39 #[.int .u64 a2, .int .u64 b2] W fun e w' => e = .returned (.int .i64 (cmpZ a2 b2)) ∧ w' = W) := hide (fun W => cmp_any W a2 b2)
  have HG := hide (((Gw.refl w).alloc (.cells #[.int .i64 a1, .int .u64 a2, .int .i64 a3, .slice a4 a5 a6, .int .u64 a7] 68)).alloc (.cells #[.int .i64 b1, .int .u64 b2, .int .i64 b3, .slice b4 b5 b6, .int .u64 b7] 68))
  change Calls Try.prog 24 #[.agg #[.int .i64 a1, .int .u64 a2, .int .i64 a3, .slice a4 a5 a6, .int .u64 a7], .agg #[.int .i64 b1, .int .u64 b2, .int .i64 b3, .slice b4 b5 b6, .int .u64 b7]] w fun e w' => e = .returned (.int .i64 (cmpZ a2 b2)) ∧ Gw w w'
  generalize cmpZ a2 b2 = r at *
  go_enter Try.func24, Try.ntmps24
  go_wp2_with (first | (go_at_call 39; with_reducible refine (unhide CC _).mono ?_; rintro e w1 ⟨rfl, h⟩; obtain rfl := h.symm))
  go_ret
  exact ⟨rfl, unhide HG⟩
theorem or_any (w : World) (g : Nat) (a b : Int) (h : w.heap[g]? = some (.cells #[.int .i64 a, .int .i64 b] 3 (0, 0))) : Calls Try.prog 40 #[.slice (some ⟨g, 0, none⟩) 2 2] w fun e w' => e = .returned (.int .i64 (if a ≠ 0 then a else b)) ∧ w' = w := by
  have c0 : w.cell? ⟨g, 0, none⟩ = some (.int .i64 a) := cell_blk h 0
  have c1 : w.cell? ⟨g, 1, none⟩ = some (.int .i64 b) := cell_blk h 1
  by_cases h0 : a = 0
  · rw [if_neg (by simp [h0])]
    subst h0
    by_cases h1 : b = 0
    · subst h1
      go_enter Try.func40, Try.ntmps40
      go_wp2_with fail
      go_loopw [8] (fun iv wr => ∃ i : Nat, iv = .int .i64 ((i : Nat) : Int) ∧ i ≤ 2 ∧ Hid (wr = w)) (fun iv _ => 2 - (intOf iv).toNat)
      case atStart => exact ⟨0, rfl, by omega, hide rfl⟩
      case round =>
        obtain ⟨i, rfl, hi, hw⟩ := hrel
        obtain rfl := (unhide hw).symm
        rcases (show i = 0 ∨ i = 1 ∨ i = 2 by omega) with rfl | rfl | rfl
        · go_wp2_with fail
          all_goals go_roundw
          case rel => exact ⟨1, by go_num, by omega, hide trivial⟩
          case measure => simp [intOf]
        · go_wp2_with fail
          all_goals go_roundw
          case rel => exact ⟨2, by go_num, by omega, hide trivial⟩
          case measure => simp [intOf]
        · go_wp2_with fail
          go_ret
          exact ⟨rfl, rfl⟩
    · have f1 : (b != 0) = true := by simp [h1]
      go_enter Try.func40, Try.ntmps40
      go_wp2_with fail
      go_loopw [8] (fun iv wr => ∃ i : Nat, iv = .int .i64 ((i : Nat) : Int) ∧ i ≤ 1 ∧ Hid (wr = w)) (fun iv _ => 2 - (intOf iv).toNat)
      case atStart => exact ⟨0, rfl, by omega, hide rfl⟩
      case round =>
        obtain ⟨i, rfl, hi, hw⟩ := hrel
        obtain rfl := (unhide hw).symm
        rcases (show i = 0 ∨ i = 1 by omega) with rfl | rfl
        · go_wp2_with fail
          all_goals go_roundw
          case rel => exact ⟨1, by go_num, by omega, hide trivial⟩
          case measure => simp [intOf]
        · go_wp2_with fail
          go_ret
          exact ⟨rfl, rfl⟩
  · rw [if_pos h0]
    have f1 : (a != 0) = true := by simp [h0]
    go_enter Try.func40, Try.ntmps40
    go_wp2_with fail
    go_loopw [8] (fun iv wr => iv = .int .i64 0 ∧ Hid (wr = w)) (fun iv _ => 0)
    case atStart => exact ⟨rfl, hide rfl⟩
    case round =>
      obtain ⟨rfl, hw⟩ := hrel
      obtain rfl := (unhide hw).symm
      go_wp2_with fail
      go_ret
      exact ⟨rfl, rfl⟩
end Go.Proofs.Ytfebiemfmiahhaa
