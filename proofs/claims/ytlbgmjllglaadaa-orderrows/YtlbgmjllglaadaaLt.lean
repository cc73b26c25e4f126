/- The law's last loops: lists appended to, and kept. -/
import Derived.Test.YtlbgmjllglaadaaLs
namespace Go.Proofs.Ytlbgmjllglaadaa
open Go.ChangeShapes Go.WideShapes Go.ChangeAt Go.RowKit
set_option linter.unusedVariables false
set_option maxRecDepth 20000
set_option maxHeartbeats 2000000

/-- all lists are written over; of the first i there is one with one command more, and one with seventy -/
structure P4 (w wr : World) (lv fv mv : Value) (bs : Nat → Nat) (i : Nat) (Ff Fm : Nat → Value) : Prop where
  bel : Below w.heap.size w wr
  lin : Line wr 23 lv 40 (fun j => el (bs j))
  cmd : ∀ j, j < 40 → ∃ cur, wr.heap[bs j]? = some (.cells cur 28 (0, 0)) ∧ cur.size = 217 ∧ ∀ m, m < 31 → cur[m * 7]? = some (.string (mkB j))
  fl : Line wr 23 fv i Ff
  ml : Line wr 23 mv i Fm
  fn : ∀ j, j < i → Nm wr (Ff j) 32 (mkB j)
  mn : ∀ j, j < i → Nm wr (Fm j) 101 (mkB j)
  lo : ∀ g, lv.ownBlock = some g → w.heap.size ≤ g
  fo : ∀ g, fv.ownBlock = some g → w.heap.size ≤ g ∧ lv.ownBlock ≠ some g ∧ mv.ownBlock ≠ some g
  mo : ∀ g, mv.ownBlock = some g → w.heap.size ≤ g ∧ lv.ownBlock ≠ some g
theorem P4.start {w wr : World} {lv : Value} {bs : Nat → Nat} (h : P3 w wr lv bs 40 0) (lo : ∀ g, lv.ownBlock = some g → w.heap.size ≤ g) : P4 w wr lv (.slice none 0 0) (.slice none 0 0) bs 0 (fun _ => undef) (fun _ => undef) :=
  ⟨h.bel, h.line, fun j hj => by
    obtain ⟨cur, h1, h2, h3⟩ := h.cmd j hj
    exact ⟨cur, h1, h2, fun m hm => h3 m hm (.inl hj)⟩, .inl ⟨rfl, rfl⟩, .inl ⟨rfl, rfl⟩, fun j hj => absurd hj (Nat.not_lt_zero _), fun j hj => absurd hj (Nat.not_lt_zero _), lo, fun g hg => by simp [Value.ownBlock] at hg, fun g hg => by simp [Value.ownBlock] at hg⟩
theorem P4.lnm {w wr : World} {lv fv mv : Value} {bs : Nat → Nat} {i : Nat} {Ff Fm : Nat → Value} (h : P4 w wr lv fv mv bs i Ff Fm) (j : Nat) (hj : j < 40) : Nm wr (el (bs j)) 31 (mkB j) := by
  obtain ⟨cur, h1, h2, h3⟩ := h.cmd j hj
  exact ⟨bs j, 31, cur, 28, rfl, h1, .inr ⟨rfl, rfl⟩, Nat.le_refl _, by decide, by omega, h3⟩
/-- a list's block has another type than a list of commands has -/
theorem line_type {w : World} {v : Value} {n : Nat} {f : Nat → Value} (h : Line w 23 v n f) (g : Nat) (hg : v.ownBlock = some g) : ∃ c, w.heap[g]? = some (.cells c 23 (0, 0)) := by
  rcases h with ⟨rfl, _⟩ | ⟨g', cap, cur, rfl, hg', _⟩
  · simp [Value.ownBlock] at hg
  · simp [Value.ownBlock] at hg
    subst hg
    exact ⟨cur, hg'⟩
/-- list i is appended to: kg commands have come, kf: is it among the first ones? -/
structure P5 (ws wr : World) (fv0 fv gv u : Value) (bs : Nat → Nat) (i kg kf : Nat) (Ff : Nat → Value) : Prop where
  os : wr.os = ws.os
  tape : wr.tape = ws.tape
  output : wr.output = ws.output
  size : ws.heap.size ≤ wr.heap.size
  old : ∀ b, b < ws.heap.size → fv0.ownBlock ≠ some b → wr.heap[b]? = ws.heap[b]?
  gn : Nm wr gv (31 + kg) (mkB i)
  hn : ∀ g cur, gv.ownBlock = some g → wr.heap[g]? = some (.cells cur 28 (0, 0)) → 217 < cur.size → ws.heap.size ≤ g
  fl : Line wr 23 fv (if kf = 0 then i else i + 1) (fun j => if j < i then Ff j else u)
  fu : 0 < kf → Nm wr u 32 (mkB i)
  fo : ∀ g, fv.ownBlock = some g → fv0.ownBlock = some g ∨ ws.heap.size ≤ g
theorem P5.start {w ws : World} {lv fv mv : Value} {bs : Nat → Nat} {i : Nat} {Ff Fm : Nat → Value} (h : P4 w ws lv fv mv bs i Ff Fm) (hi : i < 40) : P5 ws ws fv fv (el (bs i)) undef bs i 0 0 Ff := by
  refine ⟨rfl, rfl, rfl, Nat.le_refl _, fun _ _ _ => rfl, h.lnm i hi, fun g cur hg hc hz => ?_, ?_, fun h => absurd h (Nat.lt_irrefl _), fun g hg => .inl hg⟩
  · obtain ⟨c, h1, h2, _⟩ := h.cmd i hi
    simp [Value.ownBlock] at hg
    subst hg
    rw [h1] at hc
    cases hc
    omega
  · rw [if_pos rfl]
    exact h.fl.congr (fun j hj => by rw [if_pos hj])
/-- what makes memory alone -/
theorem P5.below {ws wr w1 : World} {fv0 fv gv u : Value} {bs : Nat → Nat} {i kg kf : Nat} {Ff : Nat → Value} (h : P5 ws wr fv0 fv gv u bs i kg kf Ff) (hb : Below wr.heap.size wr w1) : P5 ws w1 fv0 fv gv u bs i kg kf Ff :=
  ⟨hb.os.trans h.os, hb.tape.trans h.tape, hb.output.trans h.output, Nat.le_trans h.size hb.size, fun b hbb hv => (hb.block b (Nat.lt_of_lt_of_le hbb h.size)).trans (h.old b hbb hv), h.gn.same (fun g hg => hb.block g (h.gn.lt g hg)),
    fun g cur hg hc hz => h.hn g cur hg (by rw [← hb.block g (h.gn.lt g hg)]; exact hc) hz, h.fl.same (fun g hg => hb.block g (h.fl.lt g hg)), fun hk => (h.fu hk).same (fun g hg => hb.block g ((h.fu hk).lt g hg)), h.fo⟩
/-- one command more -/
theorem P5.more {ws wr w1 : World} {fv0 fv gv gv' u : Value} {bs : Nat → Nat} {i kg kf : Nat} {Ff : Nat → Value} (h : P5 ws wr fv0 fv gv u bs i kg kf Ff) (hk : kf ≤ kg) (hN : Nm w1 gv' (31 + kg + 1) (mkB i)) (hG : Gw (31 + kg) wr w1 gv gv') : P5 ws w1 fv0 fv gv' u bs i (kg + 1) kf Ff := by
  refine ⟨hG.os.trans h.os, hG.tape.trans h.tape, hG.output.trans h.output, Nat.le_trans h.size hG.size, fun b hb hv => ?_, hN, fun g cur hg hc hz => ?_, hG.line h.fl, fun hkf => hG.nm (h.fu hkf) (fun _ => by omega), h.fo⟩
  · rw [← h.old b hb hv]
    have := h.size
    rcases hG.how with ⟨g, c, c', h1, _, hc, _, hz, _, _, hk⟩ | ⟨_, _, hk⟩
    · have := h.hn g c h1 hc (by omega)
      exact hk b (by omega)
    · exact hk b (by omega)
  · rcases hG.how with ⟨g', c, c', h1, h2, hc', _, hz', _, _, hk⟩ | ⟨h2, _, hk⟩
    · rw [hg] at h2
      cases h2
      exact h.hn g c h1 hc' (by omega)
    · rw [hg] at h2
      cases h2
      exact h.size
/-- the list with one command more is kept among the first ones -/
theorem P5.keep {ws wr w1 : World} {fv0 fv fv' gv u : Value} {bs : Nat → Nat} {i : Nat} {Ff : Nat → Value} (h : P5 ws wr fv0 fv gv u bs i 1 0 Ff) (hL : Line w1 23 fv' (i + 1) (fun j => if j < i then (if j < i then Ff j else u) else gv)) (hG : Grew 23 i gv wr w1 fv fv') : P5 ws w1 fv0 fv' gv gv bs i 1 1 Ff := by
  have hgn := hG.nm h.gn
  refine ⟨hG.os.trans h.os, hG.tape.trans h.tape, hG.output.trans h.output, Nat.le_trans h.size hG.size, fun b hb hv => ?_, hgn, fun g cur hg hc hz => ?_, ?_, fun _ => hgn, fun g hg => ?_⟩
  · rw [← h.old b hb hv]
    refine hG.other b (by have := h.size; omega) (fun e => ?_)
    rcases h.fo b e with e | e
    · exact hv e
    · omega
  · have hlt := h.gn.lt g hg
    have : fv.ownBlock ≠ some g := fun e => by
      obtain ⟨c, hc⟩ := line_type h.fl g e
      exact h.gn.type g hg _ _ hc
    rw [hG.other g hlt this] at hc
    exact h.hn g cur hg hc hz
  · rw [if_neg (by decide)]
    exact hL.congr (fun j hj => by split <;> rfl)
  · rcases hG.how with ⟨g', cur, a1, a2, _⟩ | ⟨a2, _⟩
    · rw [hg] at a2
      cases a2
      exact h.fo g a1
    · rw [hg] at a2
      cases a2
      exact .inr h.size
theorem P5.up {ws wr : World} {fv0 fv gv u : Value} {bs : Nat → Nat} {i kg kf : Nat} {Ff : Nat → Value} (h : P5 ws wr fv0 fv gv u bs i kg kf Ff) (hk : 0 < kf) : P5 ws wr fv0 fv gv u bs i kg (kf + 1) Ff :=
  ⟨h.os, h.tape, h.output, h.size, h.old, h.gn, h.hn, by
    have := h.fl
    rw [if_neg (by omega)] at this
    rw [if_neg (by omega)]
    exact this, fun _ => h.fu hk, h.fo⟩
theorem P5.first {ws wr : World} {fv0 fv gv u : Value} {bs : Nat → Nat} {i kg : Nat} {Ff : Nat → Value} (h : P5 ws wr fv0 fv gv u bs i kg 0 Ff) : Line wr 23 fv i (fun j => if j < i then Ff j else u) := by
  have := h.fl
  rwa [if_pos rfl] at this
theorem P5.box {ws wr : World} {fv0 fv gv u : Value} {bs : Nat → Nat} {i kg kf : Nat} {Ff : Nat → Value} (h : P5 ws wr fv0 fv gv u bs i kg kf Ff) (o : Obj) : P5 ws (wr.alloc o) fv0 fv gv u bs i kg kf Ff := h.below ((Below.refl _ _).alloc (Nat.le_refl _) _)
theorem box_cell (w : World) (v : Value) (t : TypeId) : (w.alloc (.cells #[v] t)).cell? ⟨w.heap.size, 0, none⟩ = some v := by
  rw [cell_of_row _ _ _ _ _ _ (heap_alloc_last w _)]
  rfl
/-- the lists beside it, while list i is appended to -/
theorem P5.beside {w ws wr : World} {lv fv0 fv mv gv u : Value} {bs : Nat → Nat} {i kg kf : Nat} {Ff Fm : Nat → Value} (p : P4 w ws lv fv0 mv bs i Ff Fm) (h : P5 ws wr fv0 fv gv u bs i kg kf Ff) :
    Below w.heap.size w wr ∧ Line wr 23 lv 40 (fun j => el (bs j)) ∧ Line wr 23 mv i Fm ∧ (∀ j, j < 40 → ∃ cur, wr.heap[bs j]? = some (.cells cur 28 (0, 0)) ∧ cur.size = 217 ∧ ∀ m, m < 31 → cur[m * 7]? = some (.string (mkB j))) ∧ (∀ j, j < i → Nm wr (Ff j) 32 (mkB j) ∧ Nm wr (Fm j) 101 (mkB j)) := by
  have nf : ∀ (b : Nat) (t : TypeId) (c : Array Value), t ≠ 23 → ws.heap[b]? = some (.cells c t (0, 0)) → fv0.ownBlock ≠ some b := fun b t c ht hb e => by
    obtain ⟨c', hc⟩ := line_type p.fl b e
    rw [hc] at hb
    cases hb
    exact ht rfl
  have nn : ∀ {v n s}, Nm ws v n s → Nm wr v n s := fun {v n s} hv => by
    refine hv.same (fun g hg => h.old g (hv.lt g hg) (fun e => ?_))
    obtain ⟨c', hc⟩ := line_type p.fl g e
    exact hv.type g hg _ _ hc
  refine ⟨⟨h.os.trans p.bel.os, h.tape.trans p.bel.tape, h.output.trans p.bel.output, Nat.le_trans p.bel.size h.size, fun b hb => ?_⟩, p.lin.same (fun g hg => h.old g (p.lin.lt g hg) (fun e => (p.fo g e).2.1 hg)), p.ml.same (fun g hg => h.old g (p.ml.lt g hg) (fun e => (p.fo g e).2.2 hg)), fun j hj => ?_, fun j hj => ⟨nn (p.fn j hj), nn (p.mn j hj)⟩⟩
  · rw [h.old b (Nat.lt_of_lt_of_le hb p.bel.size) (fun e => by have := (p.fo b e).1; omega), p.bel.block b hb]
  · obtain ⟨cur, h1, h2, h3⟩ := p.cmd j hj
    exact ⟨cur, by rw [h.old _ (Array.getElem?_eq_some_iff.1 h1).1 (nf _ 28 _ (by decide) h1)]; exact h1, h2, h3⟩
/-- and at its end it is kept among the long ones -/
theorem P5.next {w ws wr w1 : World} {lv fv0 fv mv mv' gv u : Value} {bs : Nat → Nat} {i : Nat} {Ff Fm : Nat → Value} (p : P4 w ws lv fv0 mv bs i Ff Fm) (h : P5 ws wr fv0 fv gv u bs i 70 70 Ff) (hL : Line w1 23 mv' (i + 1) (fun j => if j < i then Fm j else gv)) (hG : Grew 23 i gv wr w1 mv mv') :
    P4 w w1 lv fv mv' bs (i + 1) (fun j => if j < i then Ff j else u) (fun j => if j < i then Fm j else gv) := by
  obtain ⟨b1, b2, b3, b4, b5⟩ := P5.beside p h
  have nm : ∀ (b : Nat) (t : TypeId) (c : Array Value), t ≠ 23 → wr.heap[b]? = some (.cells c t (0, 0)) → w1.heap[b]? = some (.cells c t (0, 0)) := fun b t c ht hb => by
    rw [hG.other b (Array.getElem?_eq_some_iff.1 hb).1 (fun e => by
      obtain ⟨c', hc⟩ := line_type b3 b e
      rw [hc] at hb
      cases hb
      exact ht rfl)]
    exact hb
  have wsz := h.size
  refine ⟨⟨hG.os.trans b1.os, hG.tape.trans b1.tape, hG.output.trans b1.output, Nat.le_trans b1.size hG.size, fun b hb => ?_⟩, b2.same (fun g hg => hG.other g (b2.lt g hg) (fun e => (p.mo g e).2 hg)), fun j hj => ?_, ?_, hL, fun j hj => ?_, fun j hj => ?_, p.lo, fun g hg => ?_, fun g hg => ?_⟩
  · rw [hG.other b (Nat.lt_of_lt_of_le hb b1.size) (fun e => by have := (p.mo b e).1; omega), b1.block b hb]
  · obtain ⟨cur, h1, h2, h3⟩ := b4 j hj
    exact ⟨cur, nm _ 28 _ (by decide) h1, h2, h3⟩
  · have hf := h.fl
    rw [if_neg (by decide)] at hf
    refine hf.same (fun g hg => hG.other g (hf.lt g hg) (fun e => ?_))
    rcases h.fo g hg with e2 | e2
    · exact (p.fo g e2).2.2 e
    · have := p.ml.lt g e; omega
  · by_cases e : j < i
    · simp only [if_pos e]
      exact hG.nm (b5 j e).1
    · have : j = i := by omega
      subst this
      simp only [if_neg e]
      exact hG.nm (h.fu (by decide))
  · by_cases e : j < i
    · simp only [if_pos e]
      exact hG.nm (b5 j e).2
    · have : j = i := by omega
      subst this
      simp only [if_neg e]
      exact hG.nm h.gn
  · have gl : ∀ k, mv'.ownBlock = some k → k = g → False := fun k hk e => by
      subst e
      rcases hG.how with ⟨g', cur, a1, a2, _⟩ | ⟨a2, _⟩
      · rw [hk] at a2
        cases a2
        rcases h.fo k hg with e2 | e2
        · exact (p.fo k e2).2.2 a1
        · have := p.ml.lt k a1; omega
      · rw [hk] at a2
        cases a2
        have := h.fl.lt _ hg
        omega
    refine ⟨?_, fun e => ?_, fun e => gl g e rfl⟩
    · rcases h.fo g hg with e2 | e2
      · exact (p.fo g e2).1
      · have := p.bel.size; omega
    · rcases h.fo g hg with e2 | e2
      · exact (p.fo g e2).2.1 e
      · have := p.lin.lt g e; omega
  · rcases hG.how with ⟨g', cur, a1, a2, _⟩ | ⟨a2, _⟩
    · rw [hg] at a2
      cases a2
      exact p.mo g a1
    · rw [hg] at a2
      cases a2
      exact ⟨b1.size, fun e => by have := b2.lt _ e; omega⟩
end Go.Proofs.Ytlbgmjllglaadaa
