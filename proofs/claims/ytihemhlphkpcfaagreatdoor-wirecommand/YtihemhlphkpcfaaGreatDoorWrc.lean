/- The document's texted and bulk. -/
import Derived.Test.YtihemhlphkpcfaaGreatDoorWrb
import Derived.Test.YtihemhlphkpcfaaGreatDoorRText
namespace Go.Proofs.YtihemhlphkpcfaaGreatDoor
open Go.ChangeShapes Go.WideShapes Go.ChangeAt Go.RowKit
set_option linter.unusedVariables false
set_option linter.unusedSimpArgs false
set_option maxRecDepth 20000
set_option maxHeartbeats 4000000

/-- bytes as a text -/
def sB (l : List Nat) : ByteArray := strOfNums (l.map Int.ofNat)
theorem sB_add (w : World) (x y : List Nat) (hx : x.length ≤ 8388608) (hy : y.length ≤ 8388608) : (Op.stringOp .add (sB x) (sB y)).run Tryz.prog w = .ok (.string (sB (x ++ y))) w := by
  have h := run_string_add_lists (P := Tryz.prog) w ((x.map Int.ofNat).map fun n => UInt8.ofNat n.toNat) ((y.map Int.ofNat).map fun n => UInt8.ofNat n.toNat) (by simp; omega) (by simp; omega)
  unfold sB strOfNums
  rw [List.map_append, List.map_append]
  exact h
theorem texted_any (n : Int) (h0 : -9223372036854775808 ≤ n) (h1 : n ≤ 9223372036854775807) (w : World) :
    Calls Tryz.prog 46 #[.int .i64 n] w fun e w' => e = .returned (.string (sB (Larder.spellI n))) ∧ Below w.heap.size w w' := by
  have CT : Hid (Calls Tryz.prog 65 #[.int .i64 n] w fun e w' => ∃ a c, e = .returned (.slice a (Larder.spellI n).length c) ∧ Hid (Below w.heap.size w w') ∧ (convert 25 9 (.slice a (Larder.spellI n).length c)).run Tryz.prog w' = .ok (.string (sB (Larder.spellI n))) w') := hide ((rtext_any n h0 h1 w).mono (fun e w' ⟨a, c, h1, h2, h3⟩ => ⟨a, c, h1, hide h3, conv_any a c w' _ h2⟩))
  generalize sB (Larder.spellI n) = R at *
  generalize (Larder.spellI n).length = ln at *
  go_enter Tryz.func46, Tryz.ntmps46
  go_wp2_with (go_at_call 65; refine (unhide CT).mono ?_; rintro e w1 ⟨a1, c1, rfl, k1, x1⟩)
  go_ret
  exact ⟨rfl, unhide k1⟩
theorem bulk_any (a : Option Addr) (c : Nat) (T : List Nat) (w : World) (hB : Bytes w a T) (hl : T.length ≤ 4194304) :
    Calls Tryz.prog 47 #[.slice a T.length c] w fun e w' => e = .returned (.string (sB (textL T))) ∧ Below w.heap.size w w' := by
  have sp := spell_short (T.length : Nat) (by omega) (by omega)
  have CT : Hid (Calls Tryz.prog 46 #[.int .i64 (T.length : Nat)] w fun e w' => e = .returned (.string (sB (Larder.spellI T.length))) ∧ Hid (Below w.heap.size w w') ∧ (convert 25 9 (.slice a T.length c)).run Tryz.prog w' = .ok (.string (sB T)) w') := hide ((texted_any (T.length : Nat) (by omega) (by omega) w).mono (fun e w' h => ⟨h.1, hide h.2, conv_any a c w' T (hB.below h.2)⟩))
  have A1 : ∀ W, (Op.stringOp .add ⟨#[36]⟩ (sB (Larder.spellI T.length))).run Tryz.prog W = .ok (.string (sB ([36] ++ Larder.spellI T.length))) W := fun W => sB_add W [36] _ (by simp) (by omega)
  have A2 : ∀ W, (Op.stringOp .add (sB ([36] ++ Larder.spellI T.length)) ⟨#[13, 10]⟩).run Tryz.prog W = .ok (.string (sB ([36] ++ Larder.spellI T.length ++ [13, 10]))) W := fun W => sB_add W _ [13, 10] (by simp; omega) (by simp)
  have A3 : ∀ W, (Op.stringOp .add (sB ([36] ++ Larder.spellI T.length ++ [13, 10])) (sB T)).run Tryz.prog W = .ok (.string (sB ([36] ++ Larder.spellI T.length ++ [13, 10] ++ T))) W := fun W => sB_add W _ T (by simp; omega) (by omega)
  have A4 : ∀ W, (Op.stringOp .add (sB ([36] ++ Larder.spellI T.length ++ [13, 10] ++ T)) ⟨#[13, 10]⟩).run Tryz.prog W = .ok (.string (sB ([36] ++ Larder.spellI T.length ++ [13, 10] ++ T ++ [13, 10]))) W := fun W => sB_add W _ [13, 10] (by simp; omega) (by simp)
  have HE : Hid (sB (textL T) = sB ([36] ++ Larder.spellI T.length ++ [13, 10] ++ T ++ [13, 10])) := hide rfl
  generalize sB (textL T) = R at *
  generalize sB ([36] ++ Larder.spellI T.length ++ [13, 10] ++ T ++ [13, 10]) = R4 at *
  generalize sB ([36] ++ Larder.spellI T.length ++ [13, 10] ++ T) = R3 at *
  generalize sB ([36] ++ Larder.spellI T.length ++ [13, 10]) = R2 at *
  generalize sB ([36] ++ Larder.spellI T.length) = R1 at *
  generalize sB (Larder.spellI T.length) = R0 at *
  generalize sB T = RT at *
  clear hB
  go_enter Tryz.func47, Tryz.ntmps47
  go_wp2_with (go_at_call 46; refine (unhide CT).mono ?_; rintro e w1 ⟨rfl, k1, x1⟩)
  go_ret
  exact ⟨by rw [unhide HE]; rfl, unhide k1⟩
end Go.Proofs.YtihemhlphkpcfaaGreatDoor
