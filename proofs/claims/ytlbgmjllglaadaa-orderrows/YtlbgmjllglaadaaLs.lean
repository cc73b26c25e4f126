/- The law's loops: what stays between the rounds. -/
import Derived.Test.YtlbgmjllglaadaaLn
import Derived.Test.YtlbgmjllglaadaaCc
import Derived.Test.YtlbgmjllglaadaaCd
namespace Go.Proofs.Ytlbgmjllglaadaa
open Go.ChangeShapes Go.WideShapes Go.ChangeAt Go.RowKit
set_option linter.unusedVariables false
set_option maxRecDepth 20000
set_option maxHeartbeats 2000000

theorem Try.info23 : (Try.prog.info? 23).map (fun i => (i.zero, i.size, i.bytes)) = some (some (.slice none 0 0), 1, 24) := by kernel_rfl
/-- list j, as it stands in l -/
abbrev el (b : Nat) : Value := .slice (some ⟨b, 0, none⟩) 31 31
/-- the first k lists have come: each lies in a block of its own and is the table -/
structure P1 (w wr : World) (lv : Value) (k : Nat) (bs : Nat → Nat) : Prop where
  bel : Below w.heap.size w wr
  line : Line wr 23 lv k (fun j => el (bs j))
  tab : ∀ j, j < k → w.heap.size ≤ bs j ∧ wr.heap[bs j]? = some (.cells tabA 28 (0, 0))
  one : ∀ i j, i < k → j < k → bs i = bs j → i = j
  own : ∀ g, lv.ownBlock = some g → w.heap.size ≤ g
theorem P1.start (w : World) : P1 w w (.slice none 0 0) 0 (fun _ => 0) :=
  ⟨Below.refl _ _, .inl ⟨rfl, rfl⟩, fun j hj => absurd hj (Nat.not_lt_zero _), fun i j hi => absurd hi (Nat.not_lt_zero _), fun g hg => by simp [Value.ownBlock] at hg⟩
/-- behind Commands and the box of its answer -/
theorem P1.mid {w wr w1 : World} {lv : Value} {k : Nat} {bs : Nat → Nat} (h : P1 w wr lv k bs) (c1 : w1.heap[wr.heap.size]? = some (.cells tabA 28 (0, 0)) ∧ w1.heap.size = wr.heap.size + 1 ∧ Below wr.heap.size wr w1) :
    Line (w1.alloc (.cells #[el wr.heap.size] 23)) 23 lv k (fun j => el (bs j)) ∧ (w1.alloc (.cells #[el wr.heap.size] 23)).cell? ⟨w1.heap.size, 0, none⟩ = some (el wr.heap.size) := by
  refine ⟨h.line.same (fun g hg => ?_), ?_⟩
  · have := h.line.lt g hg
    rw [Below.heap_alloc _ _ _ (by have := c1.2.1; omega), c1.2.2.block g this]
  · rw [cell_of_row _ _ _ _ _ _ (heap_alloc_last w1 _)]
    rfl
theorem P1.step {w wr w1 w3 : World} {lv v' : Value} {k : Nat} {bs : Nat → Nat} (h : P1 w wr lv k bs) (c1 : w1.heap[wr.heap.size]? = some (.cells tabA 28 (0, 0)) ∧ w1.heap.size = wr.heap.size + 1 ∧ Below wr.heap.size wr w1)
    (hL : Line w3 23 v' (k + 1) (fun j => if j < k then el (bs j) else el wr.heap.size)) (hG : Grew 23 k (el wr.heap.size) (w1.alloc (.cells #[el wr.heap.size] 23)) w3 lv v') :
    P1 w w3 v' (k + 1) (fun j => if j < k then bs j else wr.heap.size) := by
  have hs1 := c1.2.1
  have hsz : (w1.alloc (.cells #[el wr.heap.size] 23)).heap.size = wr.heap.size + 2 := by simp; omega
  have old : ∀ b, b < wr.heap.size + 1 → lv.ownBlock ≠ some b → w3.heap[b]? = w1.heap[b]? := fun b hb hv => by
    rw [hG.other b (by omega) hv, Below.heap_alloc _ _ _ (by omega)]
  have hbs := h.bel.size
  have tlv : ∀ b cs, w1.heap[b]? = some (.cells cs 28 (0, 0)) → lv.ownBlock ≠ some b := fun b cs hb e => by
    have hlt := h.line.lt b e
    rcases h.line with ⟨rfl, _⟩ | ⟨g, cap, cur, rfl, hg, _⟩
    · simp [Value.ownBlock] at e
    · simp [Value.ownBlock] at e
      subst e
      rw [c1.2.2.block g hlt, hg] at hb
      cases hb
  refine ⟨⟨?_, ?_, ?_, ?_, ?_⟩, hL.congr (fun j hj => by split <;> rfl), fun j hj => ?_, fun i j hi hj e => ?_, fun g hg => ?_⟩
  · rw [hG.os]; exact c1.2.2.os.trans h.bel.os
  · rw [hG.tape]; exact c1.2.2.tape.trans h.bel.tape
  · rw [hG.output]; exact c1.2.2.output.trans h.bel.output
  · have := hG.size; omega
  · intro b hb
    rw [old b (by omega) (fun e => by have := h.own b e; omega), c1.2.2.block b (by omega), h.bel.block b hb]
  · by_cases e : j < k
    · simp only [if_pos e]
      obtain ⟨h1, h2⟩ := h.tab j e
      have hlt := (Array.getElem?_eq_some_iff.1 h2).1
      have h3 : w1.heap[bs j]? = some (.cells tabA 28 (0, 0)) := by rw [c1.2.2.block _ hlt]; exact h2
      exact ⟨h1, by rw [old _ (by omega) (tlv _ _ h3)]; exact h3⟩
    · simp only [if_neg e]
      exact ⟨hbs, by rw [old _ (by omega) (tlv _ _ c1.1)]; exact c1.1⟩
  · by_cases e1 : i < k <;> by_cases e2 : j < k <;> simp only [e1, e2, if_true, if_false] at e
    · exact h.one i j e1 e2 e
    · have := (Array.getElem?_eq_some_iff.1 (h.tab i e1).2).1; omega
    · have := (Array.getElem?_eq_some_iff.1 (h.tab j e2).2).1; omega
    · omega
  · rcases hG.how with ⟨g', cur, a1, a2, _⟩ | ⟨a2, _⟩
    · rw [hg] at a2
      cases a2
      exact h.own g a1
    · rw [hg] at a2
      injection a2 with a2
      omega
/-- the lists are written over: those ahead of list i whole, of list i the first k commands -/
structure P3 (w wr : World) (lv : Value) (bs : Nat → Nat) (i k : Nat) : Prop where
  bel : Below w.heap.size w wr
  line : Line wr 23 lv 40 (fun j => el (bs j))
  cmd : ∀ j, j < 40 → ∃ cur, wr.heap[bs j]? = some (.cells cur 28 (0, 0)) ∧ cur.size = 217 ∧ ∀ m, m < 31 → j < i ∨ (j = i ∧ m < k) → cur[m * 7]? = some (.string (mkB j))
theorem P3.start {w w2 wr : World} {lv : Value} {bs : Nat → Nat} (h : P1 w w2 lv 40 bs) (hb : Below w2.heap.size w2 wr) : P3 w wr lv bs 0 0 :=
  ⟨h.bel.trans (hb.mono h.bel.size), h.line.same (fun g hg => hb.block g (h.line.lt g hg)), fun j hj => ⟨tabA, by rw [hb.block _ (Array.getElem?_eq_some_iff.1 (h.tab j hj).2).1]; exact (h.tab j hj).2, tabA_size, fun m _ h => by omega⟩⟩
theorem P3.next {w wr : World} {lv : Value} {bs : Nat → Nat} {i : Nat} (h : P3 w wr lv bs i 31) : P3 w wr lv bs (i + 1) 0 :=
  ⟨h.bel, h.line, fun j hj => by
    obtain ⟨cur, h1, h2, h3⟩ := h.cmd j hj
    exact ⟨cur, h1, h2, fun m hm hh => h3 m hm (by omega)⟩⟩
theorem P3.below {w wr w1 : World} {lv : Value} {bs : Nat → Nat} {i k : Nat} (h : P3 w wr lv bs i k) (hb : Below wr.heap.size wr w1) : P3 w w1 lv bs i k :=
  ⟨h.bel.trans (hb.mono h.bel.size), h.line.same (fun g hg => hb.block g (h.line.lt g hg)), fun j hj => by
    obtain ⟨cur, h1, h2, h3⟩ := h.cmd j hj
    exact ⟨cur, by rw [hb.block _ (Array.getElem?_eq_some_iff.1 h1).1]; exact h1, h2, h3⟩⟩
/-- seven cells of one block have been written -/
structure Put7 (g o : Nat) (s : ByteArray) (w w' : World) : Prop where
  os : w'.os = w.os
  tape : w'.tape = w.tape
  output : w'.output = w.output
  size : w'.heap.size = w.heap.size
  else' : ∀ k, k ≠ g → w'.heap[k]? = w.heap[k]?
  blk : ∀ cur t, w.heap[g]? = some (.cells cur t (0, 0)) → o + 7 ≤ cur.size → ∃ cur', w'.heap[g]? = some (.cells cur' t (0, 0)) ∧ cur'.size = cur.size ∧ cur'[o]? = some (.string s) ∧ ∀ j, j < o ∨ o + 7 ≤ j → cur'[j]? = cur[j]?
/-- cells from lo to hi of one block have been written -/
structure PutR (g lo hi : Nat) (w w' : World) : Prop where
  os : w'.os = w.os
  tape : w'.tape = w.tape
  output : w'.output = w.output
  size : w'.heap.size = w.heap.size
  else' : ∀ k, k ≠ g → w'.heap[k]? = w.heap[k]?
  blk : ∀ cur t, w.heap[g]? = some (.cells cur t (0, 0)) → ∃ cur', w'.heap[g]? = some (.cells cur' t (0, 0)) ∧ cur'.size = cur.size ∧ ∀ j, j < lo ∨ hi ≤ j → cur'[j]? = cur[j]?
theorem PutR.one (g o : Nat) (w : World) (v : Value) : PutR g o (o + 1) w (w.setCell ⟨g, o, none⟩ v) := by
  refine ⟨rfl, rfl, rfl, by simp [World.setCell], fun k hk => setCell_else w g o k v hk, fun cur t hg => ⟨_, setCell_block w g o v cur t _ hg, by simp, fun j hj => ?_⟩⟩
  rw [Array.getElem?_setIfInBounds, if_neg (by omega)]
theorem PutR.and {g a b c : Nat} {w w1 w2 : World} (h : PutR g a b w w1) (k : PutR g b c w1 w2) (hab : a ≤ b) (hbc : b ≤ c) : PutR g a c w w2 := by
  refine ⟨k.os.trans h.os, k.tape.trans h.tape, k.output.trans h.output, k.size.trans h.size, fun x hx => (k.else' x hx).trans (h.else' x hx), fun cur t hg => ?_⟩
  obtain ⟨c1, h1, h2, h3⟩ := h.blk cur t hg
  obtain ⟨c2, k1, k2, k3⟩ := k.blk c1 t h1
  exact ⟨c2, k1, by omega, fun j hj => by rw [k3 j (by omega), h3 j (by omega)]⟩
theorem put7 (g o : Nat) (s : ByteArray) (w : World) (v1 v2 v3 v4 v5 v6 : Value) :
    Put7 g o s w (((((((w.setCell ⟨g, o, none⟩ (.string s)).setCell ⟨g, o + 1, none⟩ v1).setCell ⟨g, o + 2, none⟩ v2).setCell ⟨g, o + 3, none⟩ v3).setCell ⟨g, o + 4, none⟩ v4).setCell ⟨g, o + 5, none⟩ v5).setCell ⟨g, o + 6, none⟩ v6) := by
  generalize hw0 : w.setCell ⟨g, o, none⟩ (.string s) = w0
  have r1 := PutR.one g (o + 1) w0 v1
  generalize w0.setCell ⟨g, o + 1, none⟩ v1 = w1 at *
  have r2 := r1.and (PutR.one g (o + 2) w1 v2) (by omega) (by omega)
  generalize w1.setCell ⟨g, o + 2, none⟩ v2 = w2 at *
  have r3 := r2.and (PutR.one g (o + 3) w2 v3) (by omega) (by omega)
  generalize w2.setCell ⟨g, o + 3, none⟩ v3 = w3 at *
  have r4 := r3.and (PutR.one g (o + 4) w3 v4) (by omega) (by omega)
  generalize w3.setCell ⟨g, o + 4, none⟩ v4 = w4 at *
  have r5 := r4.and (PutR.one g (o + 5) w4 v5) (by omega) (by omega)
  generalize w4.setCell ⟨g, o + 5, none⟩ v5 = w5 at *
  have r6 := r5.and (PutR.one g (o + 6) w5 v6) (by omega) (by omega)
  generalize w5.setCell ⟨g, o + 6, none⟩ v6 = w6 at *
  have r0 := PutR.one g o w (.string s)
  rw [hw0] at r0
  have r := r0.and r6 (by omega) (by omega)
  refine ⟨r.os, r.tape, r.output, r.size, r.else', fun cur t hg hs => ?_⟩
  have b0 := setCell_block w g o (.string s) cur t _ hg
  rw [hw0] at b0
  obtain ⟨c6, k1, k2, k3⟩ := r6.blk _ t b0
  refine ⟨c6, k1, by rw [k2]; simp, ?_, fun j hj => ?_⟩
  · rw [k3 o (by omega), Array.getElem?_setIfInBounds, if_pos rfl, if_pos (by omega)]
  · rw [k3 j (by omega), Array.getElem?_setIfInBounds, if_neg (by omega)]
theorem cell_put7 (g o : Nat) (s : ByteArray) (w : World) (v1 v2 v3 v4 v5 v6 : Value) (b j : Nat) (hne : b ≠ g) :
    (((((((w.setCell ⟨g, o, none⟩ (.string s)).setCell ⟨g, o + 1, none⟩ v1).setCell ⟨g, o + 2, none⟩ v2).setCell ⟨g, o + 3, none⟩ v3).setCell ⟨g, o + 4, none⟩ v4).setCell ⟨g, o + 5, none⟩ v5).setCell ⟨g, o + 6, none⟩ v6).cell? ⟨b, j, none⟩ = w.cell? ⟨b, j, none⟩ :=
  World.cell?_of_block (w := w) ((put7 g o s w v1 v2 v3 v4 v5 v6).else' b hne)
theorem P3.put {w wr w1 : World} {lv : Value} {bs : Nat → Nat} {i k : Nat} (h : P3 w wr lv bs i k) (hi : i < 40) (hk : k < 31) (hbs : w.heap.size ≤ bs i) (hone : ∀ j, j < 40 → bs j = bs i → j = i) (hp : Put7 (bs i) (k * 7) (mkB i) wr w1) : P3 w w1 lv bs i (k + 1) := by
  obtain ⟨cu, c1, c2, c3⟩ := h.cmd i hi
  refine ⟨⟨hp.os.trans h.bel.os, hp.tape.trans h.bel.tape, hp.output.trans h.bel.output, by have := hp.size; have := h.bel.size; omega, fun b hb => by rw [hp.else' b (by omega), h.bel.block b hb]⟩, h.line.same (fun g hg => hp.else' g (fun e => ?_)), fun j hj => ?_⟩
  · subst e
    rcases h.line with ⟨rfl, _⟩ | ⟨g, cap, cur, rfl, hg', _⟩
    · simp [Value.ownBlock] at hg
    · simp [Value.ownBlock] at hg
      subst hg
      rw [c1] at hg'
      cases hg'
  · by_cases e : bs j = bs i
    · have := hone j hj e
      subst this
      obtain ⟨cu', d1, d2, d3, d4⟩ := hp.blk cu 28 c1 (by omega)
      refine ⟨cu', d1, by omega, fun m hm hh => ?_⟩
      by_cases em : m = k
      · subst em; exact d3
      · rw [d4 _ (by omega), c3 m hm (by omega)]
    · obtain ⟨cur, h1, h2, h3⟩ := h.cmd j hj
      exact ⟨cur, by rw [hp.else' _ e]; exact h1, h2, fun m hm hh => h3 m hm (by
        rcases hh with hh | ⟨rfl, hh⟩
        · exact .inl hh
        · exact absurd rfl e)⟩
end Go.Proofs.Ytlbgmjllglaadaa
