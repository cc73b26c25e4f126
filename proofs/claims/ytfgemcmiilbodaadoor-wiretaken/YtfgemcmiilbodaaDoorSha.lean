/- larderlaw3's spread: sign, what lies there. -/
import Derived.Test.YtfgemcmiilbodaaDoorRw
import Derived.Deep.RegionHeld3
import Derived.Deep.MidRow
namespace Go.Proofs.YtfgemcmiilbodaaDoor
open Go.ChangeShapes Go.WideShapes Go.ChangeAt Go.RowKit
set_option linter.unusedVariables false
set_option maxRecDepth 20000
set_option maxHeartbeats 2000000

/-- byte k of the mark of list n -/
def sgN (n k : Nat) : Nat := if k % 2 = 0 then 1 + n % 251 else 1 + (7 * n + n / 251) % 251
theorem sgN_lt (n k : Nat) : sgN n k < 256 := by unfold sgN; split <;> omega
def sgV (n k : Nat) : Value := .int .u8 (sgN n k : Nat)
theorem block_lt {w : World} {b : Nat} {o : Obj} (h : w.heap[b]? = some o) : b < w.heap.size := (Array.getElem?_eq_some_iff.1 h).1
/-- a spread that holds lists of bytes alone -/
def SpAt (W : World) (py : Nat) (yv : Value) : Prop := W.heap[py]? = some (.cells #[yv, .slice none 0 0, .slice none 0 0, .slice none 0 0] 107 (0, 0))
/-- its lists: each in memory of its own; the first i are written full, of list i the first k -/
structure Mk (W : World) (py : Nat) (yv : Value) (n : Nat) (F : Nat → Value) (L : Nat → Nat) (i k : Nat) : Prop where
  at' : SpAt W py yv
  row : Rws W 22 1 yv n F
  ent : ∀ j, j < n → ∃ f, Rws W 5 1 (F j) (L j) f ∧ ∀ q, q < L j → (j < i ∨ (j = i ∧ q < k)) → f q = sgV j q
  one : ∀ i j g, i < n → j < n → (F i).ownBlock = some g → (F j).ownBlock = some g → i = j
  len : ∀ j, j < n → L j ≤ 8388608
/-- only the lists' own memory has changed, and memory has been made -/
structure Tch (n : Nat) (F : Nat → Value) (w w' : World) : Prop where
  os : w'.os = w.os
  tape : w'.tape = w.tape
  output : w'.output = w.output
  size : w.heap.size ≤ w'.heap.size
  blk : ∀ b, b < w.heap.size → (∀ j, j < n → (F j).ownBlock ≠ some b) → w'.heap[b]? = w.heap[b]?
theorem Tch.refl (n : Nat) (F : Nat → Value) (w : World) : Tch n F w w := ⟨rfl, rfl, rfl, Nat.le_refl _, fun _ _ _ => rfl⟩
theorem Tch.trans {n : Nat} {F : Nat → Value} {a b c : World} (h : Tch n F a b) (k : Tch n F b c) : Tch n F a c :=
  ⟨k.os.trans h.os, k.tape.trans h.tape, k.output.trans h.output, Nat.le_trans h.size k.size, fun x hx hF => (k.blk x (Nat.lt_of_lt_of_le hx h.size) hF).trans (h.blk x hx hF)⟩
theorem Tch.below {n : Nat} {F : Nat → Value} {w w' : World} (h : Below w.heap.size w w') : Tch n F w w' := ⟨h.os, h.tape, h.output, h.size, fun b hb _ => h.block b hb⟩
theorem Mk.next {W : World} {py : Nat} {yv : Value} {n : Nat} {F : Nat → Value} {L : Nat → Nat} {i k : Nat} (h : Mk W py yv n F L i k) (hk : L i ≤ k) : Mk W py yv n F L (i + 1) 0 :=
  ⟨h.at', h.row, fun j hj => by
    obtain ⟨f, h1, h2⟩ := h.ent j hj
    refine ⟨f, h1, fun q hq hh => h2 q hq ?_⟩
    rcases Nat.lt_trichotomy j i with e | e | e
    · exact .inl e
    · subst e; exact .inr ⟨rfl, by omega⟩
    · omega, h.one, h.len⟩
theorem Mk.below {W W' : World} {py : Nat} {yv : Value} {n : Nat} {F : Nat → Value} {L : Nat → Nat} {i k : Nat} (h : Mk W py yv n F L i k) (hb : Below W.heap.size W W') : Mk W' py yv n F L i k :=
  ⟨by unfold SpAt; rw [hb.block _ (block_lt h.at')]; exact h.at', h.row.below hb, fun j hj => by
    obtain ⟨f, h1, h2⟩ := h.ent j hj
    exact ⟨f, h1.below hb, h2⟩, h.one, h.len⟩
theorem setCell_block (w : World) (g k : Nat) (u : Value) (cur : Array Value) (e : TypeId) (fr : Nat × Nat) (hg : w.heap[g]? = some (.cells cur e fr)) : (w.setCell ⟨g, k, none⟩ u).heap[g]? = some (.cells (cur.setIfInBounds k u) e fr) := by
  simp only [World.setCell, Array.getElem?_modify, if_true, hg, Option.map_some]
  rfl
theorem setCell_else (w : World) (g k j : Nat) (u : Value) (h : j ≠ g) : (w.setCell ⟨g, k, none⟩ u).heap[j]? = w.heap[j]? := by
  simp [World.setCell, Array.getElem?_modify, Ne.symm h]
theorem Rws.put {w : World} {t : TypeId} {v : Value} {n : Nat} {f : Nat → Value} (h : Rws w t 1 v n f) {g : Nat} (hg : v.ownBlock = some g) (k : Nat) (u : Value) : Rws (w.setCell ⟨g, k, none⟩ u) t 1 v n (fun j => if j = k then u else f j) := by
  rcases h with ⟨rfl, h0⟩ | ⟨g', cap, cur, rfl, hg', hn, hc, hs, hh⟩
  · simp [Value.ownBlock] at hg
  · simp [Value.ownBlock] at hg
    subst hg
    refine .inr ⟨g', cap, cur.setIfInBounds k u, rfl, setCell_block w g' k u cur t _ hg', hn, hc, by simpa using hs, fun j hj => ?_⟩
    have hj' : j < n * 1 := hj
    rw [Array.getElem?_setIfInBounds]
    show _ = some (if j = k then u else f j)
    by_cases e1 : k = j
    · subst e1
      rw [if_pos rfl, if_pos (by omega), if_pos rfl]
    · rw [if_neg e1, if_neg (fun h => e1 h.symm), hh j hj]
/-- a byte of list i is written -/
theorem Mk.put {W : World} {py : Nat} {yv : Value} {n : Nat} {F : Nat → Value} {L : Nat → Nat} {i k g : Nat} (h : Mk W py yv n F L i k) (hi : i < n) (hg : (F i).ownBlock = some g) :
    Mk (W.setCell ⟨g, k, none⟩ (sgV i k)) py yv n F L i (k + 1) ∧ Tch n F W (W.setCell ⟨g, k, none⟩ (sgV i k)) := by
  obtain ⟨f0, r0, _⟩ := h.ent i hi
  obtain ⟨c0, hc0⟩ := r0.type g hg
  have hpy : py ≠ g := fun e => by
    have := h.at'
    unfold SpAt at this
    rw [e, hc0] at this
    cases this
  refine ⟨⟨?_, ?_, fun j hj => ?_, h.one, h.len⟩, ⟨rfl, rfl, rfl, by simp [World.setCell], fun b hb hF => setCell_else _ _ _ _ _ (fun e => hF i hi (by rw [hg, e]))⟩⟩
  · unfold SpAt; rw [setCell_else _ _ _ _ _ hpy]; exact h.at'
  · refine h.row.same (fun x hx => setCell_else _ _ _ _ _ (fun e => ?_))
    obtain ⟨c, hc⟩ := h.row.type x hx
    rw [e, hc0] at hc
    cases hc
  · obtain ⟨f, h1, h2⟩ := h.ent j hj
    by_cases e : (F j).ownBlock = some g
    · have hij := h.one j i g hj hi e hg
      subst hij
      refine ⟨_, h1.put e k (sgV j k), fun q hq hh => ?_⟩
      by_cases eq : q = k
      · subst eq; simp
      · simp only [if_neg eq]
        exact h2 q hq (by omega)
    · refine ⟨f, h1.same (fun x hx => setCell_else _ _ _ _ _ (fun e2 => e (by rw [← e2]; exact hx))), fun q hq hh => h2 q hq ?_⟩
      rcases hh with hh | ⟨hh, _⟩
      · exact .inl hh
      · subst hh; exact absurd hg e
end Go.Proofs.YtfgemcmiilbodaaDoor
