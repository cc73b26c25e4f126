/- record: the reader: want, take. -/
import Derived.Test.YtljeedgnjgeopaaVc
namespace Larder
/-- a reader: what is left, or nothing if it was wrong -/
abbrev Rd := Option (List Nat)
def tkV (s : Rd) (k : Nat) : List Nat := match s with
  | some l => if k ≤ l.length then l.take k else []
  | none => []
def tkS (s : Rd) (k : Nat) : Rd := match s with
  | some l => if k ≤ l.length then some (l.drop k) else none
  | none => none
end Larder
namespace Go.Proofs.Ytljeedgnjgeopaa
open Go.ChangeShapes Go.WideShapes Go.ChangeAt Go.RowKit
set_option linter.unusedVariables false
set_option linter.unusedSimpArgs false
set_option maxRecDepth 100000
set_option maxHeartbeats 4000000
/-- all but one block is as it was -/
structure Kx (g : Nat) (w w' : World) : Prop where
  os : w'.os = w.os
  tape : w'.tape = w.tape
  output : w'.output = w.output
  size : w.heap.size ≤ w'.heap.size
  blk : ∀ k, k < w.heap.size → k ≠ g → w'.heap[k]? = w.heap[k]?
theorem Kx.refl (g : Nat) (w : World) : Kx g w w := ⟨rfl, rfl, rfl, Nat.le_refl _, fun _ _ _ => rfl⟩
theorem Kx.trans {g : Nat} {a b c : World} (h : Kx g a b) (k : Kx g b c) : Kx g a c := ⟨k.os.trans h.os, k.tape.trans h.tape, k.output.trans h.output, Nat.le_trans h.size k.size, fun q hq hn => (k.blk q (Nat.lt_of_lt_of_le hq h.size) hn).trans (h.blk q hq hn)⟩
theorem Kx.below {g : Nat} {a b : World} (h : Below a.heap.size a b) : Kx g a b := ⟨h.os, h.tape, h.output, h.size, fun q hq _ => h.block q hq⟩
theorem set_else (w : World) (g i k : Nat) (u : Value) (hk : k ≠ g) : (w.setCell ⟨g, i, none⟩ u).heap[k]? = w.heap[k]? := by
  simp [World.setCell, Array.getElem?_modify, Ne.symm hk]
theorem set_block (w : World) (g i : Nat) (u : Value) (cs : Array Value) (t : TypeId) (f : Nat × Nat) (h : w.heap[g]? = some (.cells cs t f)) : (w.setCell ⟨g, i, none⟩ u).heap[g]? = some (.cells (cs.setIfInBounds i u) t f) := by
  simp only [World.setCell, Array.getElem?_modify, if_true, h, Option.map_some]
  rfl
theorem Kx.put {g i : Nat} {w : World} {v : Value} : Kx g w (w.setCell ⟨g, i, none⟩ v) := ⟨rfl, rfl, rfl, by simp, fun k _ hn => set_else w g i k v hn⟩
/-- a list that was handed on: its bytes lie below block g -/
def Rst (w : World) (g : Nat) (a : Option Addr) (n c : Nat) (l : List Nat) : Prop :=
  (a = none ∧ n = 0 ∧ c = 0 ∧ l = []) ∨ ∃ b off, a = some ⟨b, off, none⟩ ∧ b < g ∧ n = l.length ∧ n ≤ c ∧ ∀ i, i < n → w.cell? ⟨b, off + i, none⟩ = some (.int .u8 (l.getD i 0 : Nat))
theorem Rst.len {w : World} {g : Nat} {a : Option Addr} {n c : Nat} {l : List Nat} (h : Rst w g a n c l) : n = l.length := by
  rcases h with ⟨-, h1, -, h2⟩ | ⟨_, _, -, -, h, -⟩
  · rw [h1, h2]; rfl
  · exact h
theorem Rst.le {w : World} {g : Nat} {a : Option Addr} {n c : Nat} {l : List Nat} (h : Rst w g a n c l) : n ≤ c := by
  rcases h with ⟨-, h1, h2, -⟩ | ⟨_, _, -, -, -, h, -⟩ <;> omega
theorem Rst.kx {w w' : World} {g : Nat} {a : Option Addr} {n c : Nat} {l : List Nat} (h : Rst w g a n c l) (hg : g ≤ w.heap.size) (hk : Kx g w w') : Rst w' g a n c l := by
  rcases h with h | ⟨b, off, e, hb, h1, h2, h3⟩
  · exact .inl h
  · refine .inr ⟨b, off, e, hb, h1, h2, fun i hi => ?_⟩
    rw [← h3 i hi]
    simp only [World.cell?]
    rw [hk.blk b (by omega) (by omega)]
theorem Rst.bytes {w : World} {g : Nat} {a : Option Addr} {n c : Nat} {l : List Nat} (h : Rst w g a n c l) (hg : g ≤ w.heap.size) : Bytes w a l := by
  rcases h with ⟨-, -, -, h⟩ | ⟨b, off, e, hb, h1, h2, h3⟩
  · exact .inl h
  · exact .inr ⟨b, off, e, by omega, fun i hi => h3 i (by omega)⟩
/-- the reader in memory -/
def RdAt (w : World) (g : Nat) (s : Larder.Rd) : Prop := ∃ a n c, w.heap[g]? = some (.cells #[.slice a n c, .bool s.isNone] 94 (0, 0)) ∧ Rst w g a n c (s.getD [])
theorem RdAt.kx {w w' : World} {g g' : Nat} {s : Larder.Rd} (h : RdAt w g s) (hk : Kx g' w w') (hne : g < g') : RdAt w' g s := by
  obtain ⟨a, n, c, h1, h2⟩ := h
  have hg := blk_lt h1
  refine ⟨a, n, c, (hk.blk g hg (by omega)).trans h1, ?_⟩
  rcases h2 with h | ⟨b, off, e, hb, q1, q2, q3⟩
  · exact .inl h
  · refine .inr ⟨b, off, e, hb, q1, q2, fun i hi => ?_⟩
    rw [← q3 i hi]
    simp only [World.cell?]
    rw [hk.blk b (by omega) (by omega)]
theorem RdAt.below {w w' : World} {g : Nat} {s : Larder.Rd} (h : RdAt w g s) (hb : Below w.heap.size w w') : RdAt w' g s := by
  obtain ⟨a, n, c, h1, h2⟩ := h
  have hg := blk_lt h1
  exact ⟨a, n, c, (hb.block g hg).trans h1, h2.kx (Nat.le_of_lt hg) (.below hb)⟩
theorem want_t (w : World) (g : Nat) (s : Larder.Rd) (h : RdAt w g s) : Calls Try.prog 66 #[.pointer (some ⟨g, 0, none⟩), .bool true] w fun e w' => (∃ v, e = .returned v) ∧ w' = w := by
  obtain ⟨a, n, c, h1, h2⟩ := h
  have c0 : w.cell? ⟨g, 0, none⟩ = some (.slice a n c) := cell_blk h1 0
  clear h1 h2
  go_enter Try.func66, Try.ntmps66
  go_wp2_with fail
  all_goals first
    | (refine bodyPost_ret (results_none rfl _ _ _) rfl ?_)
    | (refine bodyPost_end (results_none rfl _ _ _) rfl ?_)
  exact ⟨⟨_, rfl⟩, rfl⟩
theorem want_f (w : World) (g : Nat) (s : Larder.Rd) (h : RdAt w g s) : Calls Try.prog 66 #[.pointer (some ⟨g, 0, none⟩), .bool false] w fun e w' => (∃ v, e = .returned v) ∧ Hid (Kx g w w' ∧ RdAt w' g none) := by
  obtain ⟨a, n, c, h1, h2⟩ := h
  have hg := blk_lt h1
  have c0 : w.cell? ⟨g, 0, none⟩ = some (.slice a n c) := cell_blk h1 0
  have c1 : w.cell? ⟨g, 1, none⟩ = some (.bool s.isNone) := cell_blk h1 1
  have f0 : w.frozen? ⟨g, 0, none⟩ = false := by simp only [World.frozen?, h1]; simp
  have f1 : w.frozen? ⟨g, 1, none⟩ = false := by simp only [World.frozen?, h1]; simp
  have b1 := set_block w g 0 (.slice none 0 0) _ _ _ h1
  have f1' : (w.setCell ⟨g, 0, none⟩ (.slice none 0 0)).frozen? ⟨g, 1, none⟩ = false := by simp only [World.frozen?, b1]; simp
  have b2 := set_block _ g 1 (.bool true) _ _ _ b1
  have B2 := hide b2
  clear h1 h2 b1 b2
  go_enter Try.func66, Try.ntmps66
  go_wp2_with fail
  all_goals first
    | (refine bodyPost_ret (results_none rfl _ _ _) rfl ?_)
    | (refine bodyPost_end (results_none rfl _ _ _) rfl ?_)
  exact ⟨⟨_, rfl⟩, hide ⟨Kx.put.trans Kx.put, none, 0, 0, unhide B2, .inl ⟨rfl, rfl, rfl, rfl⟩⟩⟩
theorem want_any (w : World) (g : Nat) (s : Larder.Rd) (b : Bool) (h : RdAt w g s) : Calls Try.prog 66 #[.pointer (some ⟨g, 0, none⟩), .bool b] w fun e w' => (∃ v, e = .returned v) ∧ Hid (Kx g w w' ∧ RdAt w' g (if b then s else none)) := by
  cases b with
  | true => exact (want_t w g s h).mono fun e w' ⟨q1, q2⟩ => ⟨q1, by rw [q2]; exact hide ⟨Kx.refl _ _, h⟩⟩
  | false => exact want_f w g s h
end Go.Proofs.Ytljeedgnjgeopaa
