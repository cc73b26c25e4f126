/- Take as a step; what only asks. -/
import Derived.Test.YtdgdnpgjbphgaabMove
namespace Go.Proofs.Ytdgdnpgjbphgaab
open Go.ChangeShapes Go.WideShapes Go.ChangeAt Go.RowKit
set_option linter.unusedVariables false
set_option maxRecDepth 100000
set_option maxHeartbeats 2000000

/-- how many words the object with that head has -/
def sizeOf' (x : Nat) : Nat := 1 + x / 256 % 16777216 + x / 4294967296 % 16777216
/-- objects lie within the words in use, and no other begins inside one that was not taken -/
def Sound (ws : List Nat) (hs : List Bool) (used : Nat) : Prop := ∀ k, k < used → hs.getD k false = true → ws.getD k 0 < 9223372036854775808 →
  IsHead (ws.getD k 0) ∧ k + sizeOf' (ws.getD k 0) ≤ used ∧ ∀ j, k < j → j < k + sizeOf' (ws.getD k 0) → hs.getD j false = false
theorem Sound.heads {ws : List Nat} {hs : List Bool} {used : Nat} (h : Sound ws hs used) : Heads ws hs used := fun k h1 h2 h3 => by
  obtain ⟨a, b, _⟩ := h k h1 h2 h3
  unfold sizeOf' at b
  exact ⟨a, by omega⟩
theorem Sound.same {ws ws' : List Nat} {hs : List Bool} {used : Nat} (h : Sound ws hs used) (he : ∀ k, k < used → hs.getD k false = true → ws'.getD k 0 < 9223372036854775808 → ws'.getD k 0 = ws.getD k 0) : Sound ws' hs used := fun k h1 h2 h3 => by
  have e := he k h1 h2 h3
  rw [e] at h3 ⊢
  exact h k h1 h2 h3
/-- one more object behind the others -/
theorem Sound.more {ws ws' : List Nat} {hs : List Bool} {used n : Nat} (h : Sound ws hs used) (hl : used + n ≤ hs.length) (hn : 1 ≤ n) (he : ∀ k, k < used → ws'.getD k 0 = ws.getD k 0) (hx : IsHead (ws'.getD used 0)) (hs' : sizeOf' (ws'.getD used 0) = n) : Sound ws' (mark hs used n) (used + n) := by
  intro k h1 h2 h3
  by_cases hk : k = used
  · subst hk
    refine ⟨hx, by omega, fun j hj1 hj2 => ?_⟩
    rw [hs'] at hj2
    rw [mark_at _ _ _ _ (by omega), if_neg (by omega), if_pos (by omega)]
  · rw [mark_at _ _ _ _ (by omega), if_neg hk] at h2
    by_cases hin : used ≤ k ∧ k < used + n
    · rw [if_pos hin] at h2; cases h2
    · rw [if_neg hin] at h2
      have hku : k < used := by omega
      rw [he k hku] at h3 ⊢
      obtain ⟨a, b, c⟩ := h k hku h2 h3
      refine ⟨a, by omega, fun j hj1 hj2 => ?_⟩
      rw [mark_at _ _ _ _ (by omega), if_neg (by omega), if_neg (by omega)]
      exact c j hj1 hj2
/-- an object's own numbers -/
theorem Sound.obj {ws : List Nat} {hs : List Bool} {used : Nat} (h : Sound ws hs used) {k : Nat} (he : (objRes ws hs used k).2.2.2 = 0) :
    1 ≤ k ∧ k < used ∧ hs.getD k false = true ∧ ws.getD k 0 < 9223372036854775808 ∧ IsHead (ws.getD k 0) ∧ sizeOf' (ws.getD k 0) = 1 + (objRes ws hs used k).2.1 + (objRes ws hs used k).2.2.1 ∧ k + sizeOf' (ws.getD k 0) ≤ used ∧ ∀ j, k < j → j < k + sizeOf' (ws.getD k 0) → hs.getD j false = false := by
  unfold objRes at he ⊢
  by_cases hb : 1 ≤ (k : Int) ∧ (k : Int) < used ∧ hs.getD (k : Int).toNat false = true
  · rw [if_pos hb] at he ⊢
    by_cases hm : 9223372036854775808 ≤ ws.getD (k : Int).toNat 0
    · rw [if_pos hm] at he; cases he
    · rw [if_neg hm]
      rw [Int.toNat_natCast] at *
      obtain ⟨a, b, c⟩ := h k (by omega) hb.2.2 (by omega)
      exact ⟨by omega, by omega, hb.2.2, by omega, a, rfl, b, c⟩
  · rw [if_neg hb] at he; cases he
end Go.Proofs.Ytdgdnpgjbphgaab
namespace Go.Proofs.Ytdgdnpgjbphgaab
open Go.ChangeShapes Go.WideShapes Go.ChangeAt Go.RowKit
set_option linter.unusedVariables false
set_option maxRecDepth 100000
set_option maxHeartbeats 2000000

theorem three_any (n : Int) (w : World) : Calls Try.prog 12 #[.int .i64 n] w fun e w' => e = .returned (.int .i64 (n % 3)) ∧ w' = w := by
  have HN : Hid ((wrap64 (n.tmod 3 + 3)).tmod 3 = n % 3) := hide (by
    have h := within_num n 3 (by decide) (by decide)
    have e : ((n % ((3 : Nat) : Int)).toNat : Int) = n % 3 := by
      have := Int.emod_nonneg n (show (3 : Int) ≠ 0 by omega)
      rw [show ((3 : Nat) : Int) = 3 from rfl]
      omega
    rw [e] at h
    exact h)
  go_enter Try.func12, Try.ntmps12
  go_wp2
  go_ret
  exact ⟨ret_int (unhide HN), rfl⟩
end Go.Proofs.Ytdgdnpgjbphgaab
