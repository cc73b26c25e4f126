/- What lent makes: a reply in new memory. -/
import Derived.Test.YtcnlikojbkegiaaGreatDoorFit
import Derived.Test.YtcnlikojbkegiaaGreatDoorSpd
import Derived.Deep.RegionHeld3
import Derived.Deep.Cut
import Derived.Deep.CutRange
import Derived.Deep.MidRow
import Derived.Deep.Upon
namespace Go.Proofs.YtcnlikojbkegiaaGreatDoor
open Go.ChangeShapes Go.WideShapes Go.ChangeAt Go.RowKit
set_option linter.unusedVariables false
set_option linter.unusedSimpArgs false
set_option maxRecDepth 20000
set_option maxHeartbeats 4000000

/-- a reply that lent has made, in the blocks from lo to hi -/
def LnAt (w : World) : (d : Nat) → Tr d → Nat → Nat → Value → Value → Value → Value → Prop
  | 0, _, _, _, _, _, _, _ => False
  | d + 1, x, lo, hi, v0, v1, v2, v3 => v0 = .int .i64 x.nd.k ∧ v1 = .int .i64 x.nd.n ∧ ∃ gt gl, ∃ I : Nat → Nat,
      v2 = .slice (some ⟨gt, 0, none⟩) x.nd.t.length (x.nd.t.length + 3) ∧ v3 = .slice (some ⟨gl, 0, none⟩) x.nd.l.length (x.nd.l.length + 1) ∧
      (gt ≠ gl ∧ lo ≤ gt ∧ lo ≤ gl ∧ gt < I 0 ∧ gl < I 0 ∧ (∀ i, I i ≤ I (i + 1)) ∧ I x.nd.l.length ≤ hi) ∧
      Rws w 5 1 (.slice (some ⟨gt, 0, none⟩) (x.nd.t.length + 3) (x.nd.t.length + 3)) (x.nd.t.length + 3) (byV (x.nd.t ++ [7, 7, 7])) ∧
      w.cell? ⟨gl, x.nd.l.length * 4, none⟩ = some (.int .i64 99) ∧
      ∀ i y, x.nd.l[i]? = some y → ∃ u0 u1 u2 u3, w.rangeAt gl (i * 4) [u0, u1, u2, u3] ∧ LnAt w d y (I i) (I (i + 1)) u0 u1 u2 u3
theorem I_le {I : Nat → Nat} (h : ∀ i, I i ≤ I (i + 1)) : ∀ {i j : Nat}, i ≤ j → I i ≤ I j
  | i, 0, hij => by obtain rfl : i = 0 := by omega
                    exact Nat.le_refl _
  | i, j + 1, hij => by
    rcases Nat.lt_or_ge i (j + 1) with q | q
    · exact Nat.le_trans (I_le h (Nat.le_of_lt_succ q)) (h j)
    · obtain rfl : i = j + 1 := by omega
      exact Nat.le_refl _
theorem cell_same {w w' : World} {b o : Nat} (h : w'.heap[b]? = w.heap[b]?) : w'.cell? ⟨b, o, none⟩ = w.cell? ⟨b, o, none⟩ := World.cell?_of_block (w := w) h
theorem range_same {w w' : World} {b o : Nat} {cs : List Value} (h : w'.heap[b]? = w.heap[b]?) (hr : w.rangeAt b o cs) : w'.rangeAt b o cs := fun j v hv => by rw [cell_same h]; exact hr j v hv
theorem LnAt.same {w w' : World} : ∀ {d : Nat} {x : Tr d} {lo hi : Nat} {v0 v1 v2 v3 : Value}, LnAt w d x lo hi v0 v1 v2 v3 → (∀ b, lo ≤ b → b < hi → w'.heap[b]? = w.heap[b]?) → LnAt w' d x lo hi v0 v1 v2 v3
  | 0, _, _, _, _, _, _, _, h, _ => h
  | d + 1, x, lo, hi, v0, v1, v2, v3, ⟨h0, h1, gt, gl, I, h2, h3, ⟨n1, n2, n3, n4, n5, n6, n7⟩, hr, hc, hk⟩, hs => by
    have hI0 := I_le n6 (Nat.zero_le x.nd.l.length)
    have sl := hs gl n3 (by omega)
    refine ⟨h0, h1, gt, gl, I, h2, h3, ⟨n1, n2, n3, n4, n5, n6, n7⟩, hr.same (fun g hg => ?_), (cell_same sl).trans hc, fun i y hi => ?_⟩
    · obtain rfl : gt = g := by simpa [Value.ownBlock] using hg
      exact hs gt n2 (by omega)
    · obtain ⟨u0, u1, u2, u3, hu, hl⟩ := hk i y hi
      have hil : i < x.nd.l.length := (List.getElem?_eq_some_iff.1 hi).1
      have a1 := I_le n6 (Nat.zero_le i)
      have a2 := I_le n6 (show i + 1 ≤ x.nd.l.length by omega)
      exact ⟨u0, u1, u2, u3, range_same sl hu, hl.same (fun b hb hb' => hs b (by omega) (by omega))⟩
/-- it is the same reply -/
theorem LnAt.rp {w0 w : World} : ∀ {d : Nat} {x : Tr d} {lo hi : Nat} {v0 v1 v2 v3 u0 u1 u2 u3 : Value}, RpAt w0 d x v0 v1 v2 v3 → LnAt w d x lo hi u0 u1 u2 u3 → RpAt w d x u0 u1 u2 u3
  | 0, _, _, _, _, _, _, _, _, _, _, _, h, _ => h
  | d + 1, x, lo, hi, v0, v1, v2, v3, u0, u1, u2, u3, ⟨⟨_, q0⟩, ⟨_, q1⟩, ⟨a2, c2, _, _, q2, q3, q4⟩, a, c, _, q5, q6⟩, ⟨h0, h1, gt, gl, I, h2, h3, ⟨n1, n2, n3, n4, n5, n6, n7⟩, hr, hc, hk⟩ => by
    have hrb := hr.at (by omega)
    obtain ⟨g, cap, e, _, hlt, hcell⟩ := hrb
    obtain ⟨rfl, -⟩ : gt = g ∧ x.nd.t.length + 3 = cap := by simpa using e
    refine ⟨⟨h0, q0⟩, ⟨h1, q1⟩, ⟨_, _, h2, .inr ⟨gt, 0, rfl, hlt, fun i hi => ?_⟩, q2, q3, by omega⟩, _, _, h3, q5, ?_⟩
    · rw [hcell (0 + i) (by omega)]
      unfold byV
      simp [List.getD, List.getElem?_append_left hi]
    · cases hl : x.nd.l with
      | nil => exact .inl rfl
      | cons y0 l0 =>
        right
        obtain ⟨b, off, e, hb, hcs⟩ : ∃ b off, a = some ⟨b, off, none⟩ ∧ b < w0.heap.size ∧ ∀ i y, x.nd.l[i]? = some y → ∃ u0 u1 u2 u3, w0.cell? ⟨b, off + i * 4, none⟩ = some u0 ∧ w0.cell? ⟨b, off + i * 4 + 1, none⟩ = some u1 ∧ w0.cell? ⟨b, off + i * 4 + 2, none⟩ = some u2 ∧ w0.cell? ⟨b, off + i * 4 + 3, none⟩ = some u3 ∧ RpAt w0 d y u0 u1 u2 u3 := by
          rcases q6 with h | h
          · rw [hl] at h; cases h
          · exact h
        refine ⟨gl, 0, rfl, ?_, fun i y hi => ?_⟩
        · rcases Nat.lt_or_ge gl w.heap.size with q | q
          · exact q
          · rw [World.cell?, Array.getElem?_eq_none q] at hc
            cases hc
        · rw [← hl] at hi
          obtain ⟨u0', u1', u2', u3', hu, hln⟩ := hk i y hi
          obtain ⟨z0, z1, z2, z3, _, _, _, _, hz⟩ := hcs i y hi
          refine ⟨u0', u1', u2', u3', ?_, ?_, ?_, ?_, LnAt.rp hz hln⟩
          · have := hu 0 _ rfl; simpa using this
          · have := hu 1 _ rfl; simpa using this
          · have := hu 2 _ rfl; simpa using this
          · have := hu 3 _ rfl; simpa using this
/-- lent: its loop -/
structure LnL (w wr : World) (d : Nat) (x : Tr (d + 1)) (C : Array Value) (gx gt gl i : Nat) (I : Nat → Nat) : Prop where
  bel : Below w.heap.size w wr
  box : wr.heap[w.heap.size]? = some (.cells C 31 (0, 0))
  res : wr.heap[w.heap.size + 1]? = some (.cells #[.int .i64 0, .int .i64 0, .slice none 0 0, .slice none 0 0] 31 (0, 0))
  row : Rws wr 5 1 (.slice (some ⟨gt, 0, none⟩) (x.nd.t.length + 3) (x.nd.t.length + 3)) (x.nd.t.length + 3) (byV (x.nd.t ++ [7, 7, 7]))
  xs : wr.heap[gx]? = some (.cells #[.int .i64 x.nd.k, .int .i64 x.nd.n, .slice (some ⟨gt, 0, none⟩) x.nd.t.length (x.nd.t.length + 3), .slice none 0 0] 31 (0, 0))
  lst : wr.there gl 0 ((x.nd.l.length + 1) * 4)
  n1 : gx ≠ gt
  n2 : gt ≠ gl
  n3 : gx ≠ gl
  lx : w.heap.size + 2 ≤ gx
  lt : w.heap.size + 2 ≤ gt
  ll : w.heap.size + 2 ≤ gl
  hx : gx < I 0
  ht : gt < I 0
  hl : gl < I 0
  mono : ∀ i, I i ≤ I (i + 1)
  top : ∀ j, i ≤ j → I j = wr.heap.size
  done : ∀ j y, j < i → x.nd.l[j]? = some y → ∃ u0 u1 u2 u3, wr.rangeAt gl (j * 4) [u0, u1, u2, u3] ∧ LnAt wr d y (I j) (I (j + 1)) u0 u1 u2 u3
theorem LnL.there {w wr : World} {d : Nat} {x : Tr (d + 1)} {C : Array Value} {gx gt gl i : Nat} {I : Nat → Nat} (h : LnL w wr d x C gx gt gl i I) {j : Nat} (hj : j ≤ x.nd.l.length) : wr.there gl (j * 4) 4 := fun k hk => by
  have := h.lst (j * 4 + k) (by omega)
  rw [Nat.zero_add] at this
  exact this
theorem LnL.lts {w wr : World} {d : Nat} {x : Tr (d + 1)} {C : Array Value} {gx gt gl i : Nat} {I : Nat → Nat} (h : LnL w wr d x C gx gt gl i I) : gx < wr.heap.size ∧ gt < wr.heap.size ∧ gl < wr.heap.size ∧ w.heap.size + 1 < wr.heap.size := by
  have a := I_le h.mono (Nat.zero_le i)
  have b := h.top i (Nat.le_refl _)
  have := h.hx; have := h.ht; have := h.hl; have := h.lx
  exact ⟨by omega, by omega, by omega, by omega⟩
/-- a call between -/
theorem LnL.step {w wr w5 : World} {d : Nat} {x : Tr (d + 1)} {C : Array Value} {gx gt gl i : Nat} {I : Nat → Nat} (h : LnL w wr d x C gx gt gl i I) {y : Tr d} (hy : x.nd.l[i]? = some y) (hb : Below wr.heap.size wr w5) {u0 u1 u2 u3 : Value} (hu : LnAt w5 d y wr.heap.size w5.heap.size u0 u1 u2 u3) :
    LnL w (w5.setCells gl (i * 4) [u0, u1, u2, u3]) d x C gx gt gl (i + 1) (fun j => if j ≤ i then I j else w5.heap.size) := by
  obtain ⟨l1, l2, l3, l4⟩ := h.lts
  have hil : i < x.nd.l.length := (List.getElem?_eq_some_iff.1 hy).1
  have sz := hb.size
  have ssz : (w5.setCells gl (i * 4) [u0, u1, u2, u3]).heap.size = w5.heap.size := by simp [World.setCells]
  have oth : ∀ b, b < w5.heap.size → b ≠ gl → (w5.setCells gl (i * 4) [u0, u1, u2, u3]).heap[b]? = w5.heap[b]? := fun b hb hne => World.heap_setCells_other _ _ _ _ hb hne
  have oth2 : ∀ b, b < wr.heap.size → b ≠ gl → (w5.setCells gl (i * 4) [u0, u1, u2, u3]).heap[b]? = wr.heap[b]? := fun b hb' hne => (oth b (by omega) hne).trans (hb.block b hb')
  have th : w5.there gl 0 ((x.nd.l.length + 1) * 4) := fun j hj => by
    rw [hb.cell (p := ⟨gl, 0 + j, none⟩) l3, hb.frozen (p := ⟨gl, 0 + j, none⟩) l3]
    exact h.lst j hj
  have th4 : w5.there gl (i * 4) 4 := fun k hk => by
    have := th (i * 4 + k) (by omega)
    rw [Nat.zero_add] at this
    exact this
  have tp := h.top
  have hll := h.ll
  have hlx := h.lx
  have hlt := h.lt
  refine ⟨?_, ?_, ?_, h.row.same (fun g hg => ?_), ?_, World.there_setCells th _ _ _, h.n1, h.n2, h.n3, h.lx, h.lt, h.ll, by simpa using h.hx, by simpa using h.ht, by simpa using h.hl, fun j => ?_, fun j hj => ?_, fun j z hj hz => ?_⟩
  · have hbb := h.bel.trans (hb.mono h.bel.size)
    exact (((hbb.setCell (p := ⟨gl, i * 4, none⟩) (by simp only []; omega) u0).setCell (p := ⟨gl, i * 4 + 1, none⟩) (by simp only []; omega) u1).setCell (p := ⟨gl, i * 4 + 1 + 1, none⟩) (by simp only []; omega) u2).setCell (p := ⟨gl, i * 4 + 1 + 1 + 1, none⟩) (by simp only []; omega) u3
  · rw [oth2 _ (by omega) (by omega)]; exact h.box
  · rw [oth2 _ (by omega) (by omega)]; exact h.res
  · obtain rfl : gt = g := by simpa [Value.ownBlock] using hg
    exact oth2 _ l2 h.n2
  · rw [oth2 _ l1 h.n3]; exact h.xs
  · by_cases q : j + 1 ≤ i
    · simp only [q, if_true, (show j ≤ i by omega)]; exact h.mono j
    · by_cases q' : j ≤ i
      · simp only [q, q', if_true, if_false]
        have := I_le h.mono q'
        have := tp i (Nat.le_refl _)
        omega
      · simp only [q, q', if_false]; exact Nat.le_refl _
  · simp only [(show ¬ j ≤ i by omega), if_false, ssz]
  · rcases Nat.lt_or_ge j i with q | q
    · obtain ⟨a0, a1, a2, a3, ha, hL⟩ := h.done j z q hz
      refine ⟨a0, a1, a2, a3, World.rangeAt_setCells_apart ?_ gl (i * 4) _ (.inr (.inl (by simp; omega))), ?_⟩
      · exact range_same (hb.block gl l3) ha
      · simp only [(show j ≤ i by omega), (show j + 1 ≤ i by omega), if_true]
        have i0 := I_le h.mono (Nat.zero_le j)
        have i1 := I_le h.mono (show j + 1 ≤ i by omega)
        have i2 := tp i (Nat.le_refl _)
        have := h.hl
        exact hL.same (fun b hb' hb'' => oth2 b (by omega) (by omega))
    · obtain rfl : j = i := by omega
      obtain rfl : z = y := by rw [hz] at hy; exact Option.some.inj hy
      refine ⟨u0, u1, u2, u3, World.rangeAt_setCells_same _ _ _ _ th4, ?_⟩
      simp only [Nat.le_refl, if_true, (show ¬ j + 1 ≤ j by omega), if_false, tp j (Nat.le_refl _)]
      exact hu.same (fun b hb' hb'' => oth b hb'' (by omega))
/-- behind the loop -/
theorem LnL.last {w wr : World} {d : Nat} {x : Tr (d + 1)} {C : Array Value} {gx gt gl : Nat} {I : Nat → Nat} (h : LnL w wr d x C gx gt gl x.nd.l.length I) {W : World} (hW : Below w.heap.size w W) (hs : W.heap.size = wr.heap.size) (ho : ∀ b, b < wr.heap.size → b ≠ gl → b ≠ gx → b ≠ w.heap.size + 1 → W.heap[b]? = wr.heap[b]?)
    (hc : ∀ o, o < x.nd.l.length * 4 → W.cell? ⟨gl, o, none⟩ = wr.cell? ⟨gl, o, none⟩) (h9 : W.cell? ⟨gl, x.nd.l.length * 4, none⟩ = some (.int .i64 99)) :
    LnAt W (d + 1) x w.heap.size W.heap.size (.int .i64 x.nd.k) (.int .i64 x.nd.n) (.slice (some ⟨gt, 0, none⟩) x.nd.t.length (x.nd.t.length + 3)) (.slice (some ⟨gl, 0, none⟩) x.nd.l.length (x.nd.l.length + 1)) := by
  obtain ⟨l1, l2, l3, l4⟩ := h.lts
  have := h.lt; have := h.ll
  refine ⟨rfl, rfl, gt, gl, I, rfl, rfl, ⟨h.n2, by omega, by omega, h.ht, h.hl, h.mono, by rw [h.top _ (Nat.le_refl _), hs]; exact Nat.le_refl _⟩, h.row.same (fun g hg => ?_), h9, fun j y hj => ?_⟩
  · obtain rfl : gt = g := by simpa [Value.ownBlock] using hg
    exact ho _ l2 h.n2 (fun e => h.n1 e.symm) (by omega)
  · have hjl : j < x.nd.l.length := (List.getElem?_eq_some_iff.1 hj).1
    obtain ⟨u0, u1, u2, u3, hu, hL⟩ := h.done j y hjl hj
    refine ⟨u0, u1, u2, u3, fun k v hv => ?_, hL.same (fun b hb hb' => ?_)⟩
    · have hk : k < 4 := (List.getElem?_eq_some_iff.1 hv).1
      rw [hc _ (by omega)]
      exact hu k v hv
    · have i0 := I_le h.mono (Nat.zero_le j)
      have i1 := I_le h.mono (show j + 1 ≤ x.nd.l.length by omega)
      have i2 := h.top _ (Nat.le_refl _)
      have := h.hl; have := h.hx; have := h.lx
      exact ho b (by omega) (by omega) (by omega) (by omega)
end Go.Proofs.YtcnlikojbkegiaaGreatDoor
