/- EqLists of two lists that hold the same. -/
import Derived.Test.YtihemhlphkpcfaaGreatDoorWrb
import Derived.Deep.RegionHeld3
namespace Go.Proofs.YtihemhlphkpcfaaGreatDoor
open Go.ChangeShapes Go.WideShapes Go.ChangeAt Go.RowKit
set_option linter.unusedVariables false
set_option linter.unusedSimpArgs false
set_option maxRecDepth 20000
set_option maxHeartbeats 4000000

theorem Still.bytes {w w' : World} {a : Option Addr} {l : List Nat} (h : Still w w') (hB : Bytes w a l) : Bytes w' a l := hB.below h.below
theorem eqlists_any (w : World) (b1 o1 c1 b2 o2 c2 : Nat) (L : List (List Nat)) (h1 : ArgsAt w b1 o1 L) (h2 : ArgsAt w b2 o2 L) (hl : L.length ≤ 1073741824) :
    Calls Tryz.prog 18 #[.slice (some ⟨b1, o1, none⟩) L.length c1, .slice (some ⟨b2, o2, none⟩) L.length c2] w fun e w' => e = .returned (.bool true) ∧ Still w w' := by
  obtain ⟨m, hm⟩ : ∃ m, m = L.length := ⟨_, rfl⟩
  have HM := hide hm
  have H1 := hide h1
  have H2 := hide h2
  rw [← hm] at hl ⊢
  clear hm h1 h2
  go_enter Tryz.func18, Tryz.ntmps18
  go_wp2
  go_loopw [5] (fun iv wr => ∃ i : Nat, iv = .int .i64 (i : Nat) ∧ i ≤ m ∧ Hid (Still w wr)) (fun iv _ => m - (intOf iv).toNat)
  case atStart => exact ⟨0, rfl, Nat.zero_le _, hide (Still.refl _)⟩
  case round =>
    obtain ⟨i, rfl, hi, p⟩ := hrel
    rcases Nat.lt_or_ge i m with hlt | hge
    · have f1 : decide ((i : Int) < (m : Int)) = true := decide_eq_true (by omega)
      have g1 : (0 : Int) ≤ (i : Int) := by omega
      have g2 : (i : Int) < (m : Int) := by omega
      obtain ⟨T, hT⟩ : ∃ T, L[i]? = some T := ⟨_, List.getElem?_eq_getElem (by have := unhide HM; omega)⟩
      obtain ⟨a, c, x1, x2, x3⟩ := (unhide H1).2 i T hT
      obtain ⟨a', c', y1, y2, y3⟩ := (unhide H2).2 i T hT
      have CC : Hid (∀ W, Hid (Still w W) → Calls Tryz.prog 38 #[.slice a T.length c, .slice a' T.length c'] W fun e w' => e = .returned (.int .i64 0) ∧ Hid (Still w w') ∧ w'.cell? ⟨b1, o1 + i, none⟩ = some (.slice a T.length c) ∧ w'.cell? ⟨b2, o2 + i, none⟩ = some (.slice a' T.length c')) := hide (fun W hW => by
        refine (cmp_any (c1 := c) (c2 := c') (by omega) (by omega) ((unhide hW).bytes x2) ((unhide hW).bytes y2)).mono ?_
        rintro e w' ⟨rfl, h⟩
        have q := (unhide hW).trans h
        exact ⟨by rw [Larder.cmpL_self], hide q, (q.cell _).trans x1, (q.cell _).trans y1⟩)
      have z1 : wr.cell? ⟨b1, o1 + i, none⟩ = some (.slice a T.length c) := ((unhide p).cell _).trans x1
      have z2 : wr.cell? ⟨b2, o2 + i, none⟩ = some (.slice a' T.length c') := ((unhide p).cell _).trans y1
      have pd : Hid (Still w wr.drew) := hide ((unhide p).trans ⟨rfl, rfl, rfl, rfl⟩)
      clear hT x1 x2 x3 y1 y2 y3
      go_wp2_with fail
      go_region_held3 (fun w' => w'.cell? ⟨b1, o1 + i, none⟩ = some (.slice a T.length c) ∧ w'.cell? ⟨b2, o2 + i, none⟩ = some (.slice a' T.length c')) (go_keep) (first
        | (go_at_call 38; refine (unhide CC _ (by assumption)).mono ?_; rintro e w6 ⟨rfl, k6, s6⟩))
      all_goals go_wp2
      all_goals go_roundw
      all_goals first | exact ⟨i + 1, by go_num, by omega, k6⟩ | (simp [intOf]; omega)
    · obtain rfl : i = m := by omega
      have f1 : decide ((i : Int) < (i : Int)) = false := decide_eq_false (by omega)
      go_wp2
      go_ret
      exact ⟨rfl, unhide p⟩
end Go.Proofs.YtihemhlphkpcfaaGreatDoor
