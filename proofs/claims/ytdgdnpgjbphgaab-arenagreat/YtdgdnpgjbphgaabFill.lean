/- fill. -/
import Derived.Test.YtdgdnpgjbphgaabTake
namespace Go.Proofs.Ytdgdnpgjbphgaab
open Go.ChangeShapes Go.WideShapes Go.ChangeAt Go.RowKit
set_option linter.unusedVariables false
set_option maxRecDepth 100000
set_option maxHeartbeats 2000000

/-- the words of an object of that shape -/
def wd (s : Nat × Nat × Nat) : Nat := 1 + s.2.1 + s.2.2
def headOf (s : Nat × Nat × Nat) : Nat := s.1 + 256 * s.2.1 + 4294967296 * s.2.2
/-- where object i begins -/
def place (L : List (Nat × Nat × Nat)) : Nat → Nat
  | 0 => 1
  | i + 1 => place L i + wd (L.getD i (0, 0, 0))
theorem place_mono (L : List (Nat × Nat × Nat)) (i j : Nat) : place L i ≤ place L (i + j) := by
  induction j with
  | zero => exact Nat.le_refl _
  | succ j ih => rw [← Nat.add_assoc]; show _ ≤ place L (i + j) + _; omega
theorem place_le (L : List (Nat × Nat × Nat)) {i j : Nat} (h : i ≤ j) : place L i ≤ place L j := by
  obtain ⟨d, rfl⟩ := Nat.exists_eq_add_of_le h
  exact place_mono L i d
theorem place_lt (L : List (Nat × Nat × Nat)) {i j : Nat} (h : i < j) : place L i + wd (L.getD i (0, 0, 0)) ≤ place L j := place_le L (i := i + 1) h
/-- shapes that may be -/
def Good (L : List (Nat × Nat × Nat)) : Prop := ∀ i, i < L.length → 1 ≤ (L.getD i (0, 0, 0)).1 ∧ (L.getD i (0, 0, 0)).1 ≤ 255 ∧ (L.getD i (0, 0, 0)).2.1 ≤ 24 ∧ (L.getD i (0, 0, 0)).2.2 ≤ 24

/-- the first i objects lie in the block, all their fields 0 -/
structure LaidTo (L : List (Nat × Nat × Nat)) (i : Nat) (ws : List Nat) (hs : List Bool) : Prop where
  marks : ∀ k, k < place L i → (hs.getD k false = true ↔ ∃ j, j < i ∧ k = place L j)
  heads : ∀ j, j < i → ws.getD (place L j) 0 = headOf (L.getD j (0, 0, 0))
  fields : ∀ j f, j < i → f < (L.getD j (0, 0, 0)).2.1 + (L.getD j (0, 0, 0)).2.2 → ws.getD (place L j + 1 + f) 0 = 0
  zero : ws.getD 0 0 = 0

theorem But.below {B : List Nat} {base : Nat} {w0 w w' : World} (h : But B w w') (hb : Below base w0 w) (hB : ∀ j ∈ B, base ≤ j) (hsz : base ≤ w.heap.size) : Below base w0 w' :=
  ⟨h.os.trans hb.os, h.tape.trans hb.tape, h.output.trans hb.output, Nat.le_trans hb.size h.size, fun j hj => (h.block j (by omega) (fun hm => by have := hB j hm; omega)).trans (hb.block j hj)⟩

theorem Try.info3 : (Try.prog.info? 3).map (fun i => (i.zero, i.size, i.bytes)) = some (some (.int .i64 0), 1, 8) := by kernel_rfl

theorem place_bound {L : List (Nat × Nat × Nat)} (hg : Good L) (i : Nat) (hi : i ≤ L.length) : place L i ≤ 1 + 49 * i := by
  induction i with
  | zero => unfold place; omega
  | succ i ih =>
    have h1 := ih (by omega)
    obtain ⟨_, _, h3, h4⟩ := hg i (by omega)
    show place L i + wd (L.getD i (0, 0, 0)) ≤ _
    unfold wd; omega
theorem place_pos (L : List (Nat × Nat × Nat)) (i : Nat) : 1 ≤ place L i := place_le L (i := 0) (Nat.zero_le _)
end Go.Proofs.Ytdgdnpgjbphgaab
