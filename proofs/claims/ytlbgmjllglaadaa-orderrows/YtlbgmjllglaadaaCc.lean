/- mark, named. -/
import Derived.Test.YtlbgmjllglaadaaTb
namespace Go.Proofs.Ytlbgmjllglaadaa
open Go.ChangeShapes Go.WideShapes Go.ChangeAt Go.RowKit
set_option linter.unusedVariables false
set_option maxRecDepth 20000
set_option maxHeartbeats 2000000

/-- the mark of list i -/
def mkB (i : Nat) : ByteArray := ⟨#[109, 97, 114, 107]⟩ ++ strOfNums [97 + (i : Int) % 26, 97 + (i : Int) / 26]
theorem mark_any (i : Nat) (hi : i < 40) (w : World) : Calls Try.prog 6 #[.int .i64 (i : Nat)] w fun e w' => e = .returned (.string (mkB i)) ∧ Below w.heap.size w w' := by
  have e1 : (i : Int).tmod 26 = ((i % 26 : Nat) : Int) := by rw [Int.ofNat_tmod]; rfl
  have e2 : (i : Int).tdiv 26 = ((i / 26 : Nat) : Int) := by rw [Int.ofNat_tdiv]; rfl
  have hm : Hid (mkB i = ⟨#[109, 97, 114, 107]⟩ ++ strOfNums [97 + (i : Int) % 26, 97 + (i : Int) / 26]) := hide rfl
  generalize mkB i = M at *
  obtain ⟨S, hS⟩ : ∃ S, S = strOfNums [97 + (i : Int) % 26, 97 + (i : Int) / 26] := ⟨_, rfl⟩
  rw [← hS] at hm
  have hz : S.size = 2 := by rw [hS]; rfl
  have hc : (convert 31 9 (.slice (some ⟨w.heap.size, 0, none⟩) 2 2)).run Try.prog (w.alloc (.cells #[.int .u8 (97 + (i : Int) % 26), .int .u8 (97 + (i : Int) / 26)] 5)) = .ok (.string S) (w.alloc (.cells #[.int .u8 (97 + (i : Int) % 26), .int .u8 (97 + (i : Int) / 26)] 5)) := by
    rw [hS]
    refine run_convert_bytes_arg _ 31 5 Try.underlying31 Try.underlying5 w.heap.size 0 2 2 [97 + (i : Int) % 26, 97 + (i : Int) / 26] rfl (fun j hj => ?_) 9 Try.underlying9
    rw [cell_of_row _ _ _ _ _ _ (heap_alloc_last w _)]
    match j, hj with
    | 0, _ => rfl
    | 1, _ => rfl
  clear hS
  go_enter Try.func6, Try.ntmps6
  go_wp2
  go_ret
  exact ⟨by rw [unhide hm]; rfl, (Below.refl _ _).alloc (Nat.le_refl _) _⟩
/-- a list of commands whose names are all s -/
theorem named_any (b off n cap : Nat) (s : ByteArray) (w : World) (hn : n ≤ 1000) (h : ∀ j, j < n → w.cell? ⟨b, off + j * 7, none⟩ = some (.string s)) : Calls Try.prog 7 #[.slice (some ⟨b, off, none⟩) n cap, .string s] w fun e w' => e = .returned (.bool true) ∧ w' = w := by
  have hc := hide h
  clear h
  go_enter Try.func7, Try.ntmps7
  go_wp2
  go_loopw [5] (fun iv wr => wr = w ∧ ∃ i : Nat, iv = .int .i64 (i : Nat) ∧ i ≤ n) (fun iv _ => n - (intOf iv).toNat)
  case atStart => exact ⟨rfl, 0, rfl, Nat.zero_le _⟩
  case round =>
    obtain ⟨rfl, i, rfl, hi⟩ := hrel
    rcases Nat.lt_or_ge i n with hlt | hge
    · have c1 := unhide hc i hlt
      have f1 : decide ((i : Int) < (n : Int)) = true := decide_eq_true (by omega)
      go_wp2
      all_goals go_roundw
      all_goals first | exact ⟨trivial, i + 1, by simp, by omega⟩ | (simp only [intOf]; omega)
    · have hii : i = n := by omega
      subst hii
      have f1 : decide ((i : Int) < (i : Int)) = false := decide_eq_false (by omega)
      go_wp2
      go_ret
      exact ⟨rfl, rfl⟩
end Go.Proofs.Ytlbgmjllglaadaa
