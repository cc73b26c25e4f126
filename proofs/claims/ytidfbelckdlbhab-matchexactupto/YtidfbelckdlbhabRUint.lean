/- The document's Uint. -/
import Derived.Test.YtidfbelckdlbhabRDigits
import Derived.Test.YtidfbelckdlbhabNumber
namespace Go.Proofs.Ytidfbelckdlbhab
open Go.ChangeShapes Go.WideShapes Go.ChangeAt Go.RowKit
set_option linter.unusedVariables false
theorem digits_plain (a : Option Addr) (cap : Nat) (w : World) (l : List Nat) (hl : l.length ≤ 140737488355328) (hB : Bytes w a l) (hp : Larder.Plain l) :
    Calls Try.prog 59 #[.slice a l.length cap] w fun e w' => e = .returned (.tuple #[.string (str l), .bool true]) ∧ w' = w := by
  have hd := hp.2.2 0 hp.1
  refine (digits_whole a cap w l hl hp.2.2.small hB (fun h => by have := hd.1; omega)).mono ?_
  rintro e w' ⟨h | h, rfl⟩
  · exact ⟨h.2, rfl⟩
  · exact absurd hp h.1

/-- digits, of no spelling -/
theorem digits_none (a : Option Addr) (cap : Nat) (w : World) (l : List Nat) (hl : l.length ≤ 140737488355328) (h256 : Small l) (hB : Bytes w a l) (hp : ¬ Larder.Plain (bare l)) :
    Calls Try.prog 59 #[.slice a l.length cap] w fun e w' => e = .returned (.tuple #[.string ⟨#[]⟩, .bool false]) ∧ w' = w := by
  unfold bare at hp
  by_cases hc : 1 < l.length ∧ l.getD 0 0 = 45 ∧ l.getD 1 0 ≠ 48
  · rw [if_pos hc] at hp
    refine (digits_cut a cap w l hl h256 hB hc.1 hc.2.1 hc.2.2).mono ?_
    rintro e w' ⟨h | h, rfl⟩
    · exact absurd h.1 hp
    · exact ⟨h.2, rfl⟩
  · rw [if_neg hc] at hp
    refine (digits_whole a cap w l hl h256 hB hc).mono ?_
    rintro e w' ⟨h | h, rfl⟩
    · exact absurd h.1 hp
    · exact ⟨h.2, rfl⟩
/-- digits, of a spelling -/
theorem digits_some (a : Option Addr) (cap : Nat) (w : World) (l : List Nat) (hl : l.length ≤ 140737488355328) (h256 : Small l) (hB : Bytes w a l) (hp : Larder.Plain (bare l)) :
    Calls Try.prog 59 #[.slice a l.length cap] w fun e w' => e = .returned (.tuple #[.string (str (bare l)), .bool true]) ∧ w' = w := by
  unfold bare at hp ⊢
  by_cases hc : 1 < l.length ∧ l.getD 0 0 = 45 ∧ l.getD 1 0 ≠ 48
  · rw [if_pos hc] at hp ⊢
    refine (digits_cut a cap w l hl h256 hB hc.1 hc.2.1 hc.2.2).mono ?_
    rintro e w' ⟨h | h, rfl⟩
    · exact ⟨h.2, rfl⟩
    · exact absurd hp h.1
  · rw [if_neg hc] at hp ⊢
    refine (digits_whole a cap w l hl h256 hB hc).mono ?_
    rintro e w' ⟨h | h, rfl⟩
    · exact ⟨h.2, rfl⟩
    · exact absurd hp h.1

theorem not_plain_sign (l : List Nat) (h : l.getD 0 0 = 45) : ¬ Larder.Plain l := fun hp => by
  have := (hp.2.2 0 hp.1).1
  omega

theorem bytes_at {w : World} {a : Option Addr} {l : List Nat} (hB : Bytes w a l) (h : 0 < l.length) : ∃ b off, a = some ⟨b, off, none⟩ := by
  rcases hB with rfl | ⟨b, off, e, _⟩
  · simp at h
  · exact ⟨b, off, e⟩

end Go.Proofs.Ytidfbelckdlbhab
