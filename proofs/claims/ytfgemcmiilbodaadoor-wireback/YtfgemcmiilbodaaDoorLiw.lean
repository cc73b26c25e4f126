/- Line of the document: what the inside of a quoted part says. -/
import Derived.Test.YtfgemcmiilbodaaDoorWra
import Derived.Deep.RegionHeld3
import Derived.BigQuiet
namespace Go.Proofs.YtfgemcmiilbodaaDoor
open Go.ChangeShapes Go.WideShapes Go.ChangeAt Go.RowKit
set_option linter.unusedVariables false
set_option linter.unusedSimpArgs false
set_option maxRecDepth 20000
set_option maxHeartbeats 4000000

theorem below_drewN (w : World) (n : Nat) : Below w.heap.size w (w.drewN n) := ⟨rfl, rfl, rfl, Nat.le_refl _, fun _ _ => rfl⟩
theorem drop_at' {T : List Nat} {i : Nat} (h : i < T.length) : T.drop i = T.getD i 0 :: T.drop (i + 1) := by
  rw [List.drop_eq_getElem_cons h]
  simp [List.getD, h]
theorem Bytes.drop {w : World} {b off i : Nat} {T : List Nat} (h : Bytes w (some ⟨b, off, none⟩) T) : Bytes w (some ⟨b, off + i, none⟩) (T.drop i) := by
  rcases h with e | ⟨b', off', e, h1, h2⟩
  · exact .inl (by rw [e]; simp)
  · cases e
    refine .inr ⟨b, off + i, rfl, h1, fun k hk => ?_⟩
    have := h2 (i + k) (by simp at hk; omega)
    rw [show off + i + k = off + (i + k) by omega, this]
    simp [List.getD]
end Go.Proofs.YtfgemcmiilbodaaDoor
namespace Go.Proofs.YtfgemcmiilbodaaDoor
open Go.ChangeShapes Go.WideShapes Go.ChangeAt Go.RowKit
set_option linter.unusedVariables false
set_option linter.unusedSimpArgs false
set_option maxRecDepth 20000
set_option maxHeartbeats 4000000

/-- a list of bytes as it is handed on -/
structure Rst (w : World) (a : Option Addr) (n cp : Nat) (T : List Nat) : Prop where
  bytes : Bytes w a T
  len : n = T.length
  le : n ≤ cp
  top : cp ≤ 9223372036854775807
theorem Rst.below {w W : World} {a : Option Addr} {n cp : Nat} {T : List Nat} (h : Rst w a n cp T) (hb : Below w.heap.size w W) : Rst W a n cp T := ⟨h.bytes.below hb, h.len, h.le, h.top⟩
/-- without its first k: the address is as it was where nothing is behind it -/
theorem Rst.drop {w : World} {b off n cp : Nat} {T : List Nat} (h : Rst w (some ⟨b, off, none⟩) n cp T) (k : Nat) (hk : k ≤ n) : Rst w (some ⟨b, off + k, none⟩) (n - k) (cp - k) (T.drop k) := ⟨h.bytes.drop, by have := h.len; simp; omega, by have := h.le; omega, by have := h.top; omega⟩
theorem Rst.brim {w : World} {b off n cp : Nat} {T : List Nat} (h : Rst w (some ⟨b, off, none⟩) n cp T) (k : Nat) (hk : cp = k) : Rst w (some ⟨b, off, none⟩) (n - k) (cp - k) (T.drop k) := ⟨.inl (List.drop_eq_nil_of_le (by have := h.len; have := h.le; omega)), by have := h.len; simp; omega, by have := h.le; omega, by have := h.top; omega⟩
theorem Rst.at {w : World} {a : Option Addr} {n cp : Nat} {T : List Nat} (h : Rst w a n cp T) (h0 : 0 < n) : ∃ b off, a = some ⟨b, off, none⟩ ∧ b < w.heap.size ∧ ∀ i, i < n → w.cell? ⟨b, off + i, none⟩ = some (.int .u8 (T.getD i 0 : Nat)) := by
  rcases h.bytes with e | ⟨b, off, e, h1, h2⟩
  · have := h.len; rw [e] at this; simp at this; omega
  · exact ⟨b, off, e, h1, fun i hi => h2 i (by have := h.len; omega)⟩
end Go.Proofs.YtfgemcmiilbodaaDoor
