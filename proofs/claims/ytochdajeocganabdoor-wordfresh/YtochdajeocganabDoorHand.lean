/- What was got is handed over to the book, one by one. -/
import Derived.Test.YtochdajeocganabDoorFreshSt
namespace Go.Proofs.YtochdajeocganabDoor
open Go.ChangeShapes Go.WideShapes Go.ChangeAt Go.RowKit
set_option linter.unusedVariables false
set_option maxRecDepth 100000
set_option maxHeartbeats 4000000

structure Hand (c B0 : Nat) (w0 ws w : World) (pb : Nat) (tag lt : Nat → Nat) (S : BookSt) (k : Nat) : Prop where
  book : BookAt w pb 0 tag S
  safe : ∀ g, lt g ≠ 0 → (∀ j, j < k → lt g ≠ 30 + 2 * j + c) → g < w.heap.size ∧ tag g = 0 ∧ g ≠ pb ∧ w.heap[g]? = ws.heap[g]?
  bt : ∀ g, tag g ≠ 0 → B0 ≤ g
  bel : Below B0 w0 w
  sz : B0 ≤ w.heap.size
  size : ws.heap.size ≤ w.heap.size
theorem Hand.start {c B0 : Nat} {w0 w : World} {pb pl pw : Nat} {tag lt : Nat → Nat} {S : BookSt} {L M : TwoSt} (h : St B0 w0 w pb pl pw tag lt S L M) (h0 : B0 ≤ w.heap.size) : Hand c B0 w0 w w pb tag lt S 0 :=
  ⟨h.book, fun g hg _ => ⟨h.un g hg, (h.ap g hg).1, (h.ap g hg).2, rfl⟩, h.bt, h.bel, h0, Nat.le_refl _⟩
theorem Hand.step {c B0 : Nat} {w0 ws w w' : World} {pb : Nat} {tag tag' lt : Nat → Nat} {S S' : BookSt} {k code : Nat} {v : Value} (h : Hand c B0 w0 ws w pb tag lt S k) (hp : B0 ≤ pb) (hv : ∀ g, v.ownBlock = some g → lt g = 30 + 2 * k + c ∧ B0 ≤ g) (hb : BookAt w' pb 0 tag' S') (hn : Noted pb 0 (tagAt tag v code) tag' w w') : Hand c B0 w0 ws w' pb tag' lt S' (k + 1) := by
  have hsz := hn.size
  have ho : ∀ g, v.ownBlock ≠ some g → tagAt tag v code g = tag g := fun g hg => by unfold tagAt; rw [if_neg hg]
  refine ⟨hb, fun g hg hj => ?_, fun g hg => ?_, h.bel.trans ⟨hn.os, hn.tape, hn.output, hn.size, fun g hg => ?_⟩, by have := h.sz; omega, by have := h.size; omega⟩
  · obtain ⟨s1, s2, s3, s4⟩ := h.safe g hg (fun j hjk => hj j (by omega))
    have hvg : v.ownBlock ≠ some g := fun e => hj k (by omega) (hv g e).1
    have ht : tagAt tag v code g = 0 := by rw [ho g hvg]; exact s2
    exact ⟨by omega, (hn.tg g s1).trans ht, s3, (hn.blk g s1 ht s3).trans s4⟩
  · by_cases hlt : g < w.heap.size
    · rw [hn.tg g hlt] at hg
      by_cases e : v.ownBlock = some g
      · exact (hv g e).2
      · rw [ho g e] at hg; exact h.bt g hg
    · have := h.sz; omega
  · have hvg : v.ownBlock ≠ some g := fun e => by have := (hv g e).2; omega
    have ht : tagAt tag v code g = 0 := by
      rw [ho g hvg]
      by_cases e : tag g = 0
      · exact e
      · have := h.bt g e; omega
    exact hn.blk g (by have := h.sz; omega) ht (by omega)
/-- the book has looked: all is still there -/
theorem St.looked {B0 : Nat} {w0 w w' : World} {pb pl pw : Nat} {tag tag' lt : Nat → Nat} {S S' : BookSt} {L M : TwoSt} (h : St B0 w0 w pb pl pw tag lt S L M) (h0 : B0 ≤ w.heap.size) (hb : BookAt w' pb 0 tag' S') (hn : Noted pb 0 tag tag' w w') : St B0 w0 w' pb pl pw tag' lt S' L M := by
  have hsz := hn.size
  have hk : ∀ g, lt g ≠ 0 → w'.heap[g]? = w.heap[g]? := fun g hg => hn.blk g (h.un g hg) (h.ap g hg).1 (h.ap g hg).2
  refine ⟨hb, h.late.conf hsz (fun g _ hg _ => hk g hg) (fun _ _ _ _ => rfl), h.words.conf hsz (fun g _ hg _ => hk g hg) (fun _ _ _ _ => rfl), fun g hg => by have := h.un g hg; omega, fun g hg => ⟨(hn.tg g (h.un g hg)).trans (h.ap g hg).1, (h.ap g hg).2⟩, fun g hg => ?_, h.bl, h.bp, h.bel.trans ⟨hn.os, hn.tape, hn.output, hn.size, fun g hg => ?_⟩, h.e1, h.e2⟩
  · by_cases hlt : g < w.heap.size
    · rw [hn.tg g hlt] at hg; exact h.bt g hg
    · omega
  · refine hn.blk g (by omega) ?_ (by have := h.bp; omega)
    by_cases e : tag g = 0
    · exact e
    · have := h.bt g e; omega
/-- all was handed over: the rows are nil now -/
theorem St.empty0 {B0 : Nat} {w0 ws w : World} {pb pl pw : Nat} {tag0 tag lt : Nat → Nat} {S0 S : BookSt} {L M : TwoSt} {k : Nat} (h : St B0 w0 ws pb pl pw tag0 lt S0 L M) (hh : Hand 0 B0 w0 ws w pb tag lt S k) :
    St B0 w0 ((w.setCell ⟨pl, 0, none⟩ nilS).setCell ⟨pl, 1, none⟩ nilS) pb pl pw tag (fun g => if lt g % 2 = 0 ∧ g ≠ pl then 0 else lt g) S TwoSt.none M := by
  have sp := hh.safe pl (by rw [h.late.tp]; decide) (fun j _ => by rw [h.late.tp]; omega)
  have hel : ∀ g, g ≠ pl → ((w.setCell ⟨pl, 0, none⟩ nilS).setCell ⟨pl, 1, none⟩ nilS).heap[g]? = w.heap[g]? := fun g hg => (setCell_else _ pl 1 g _ hg).trans (setCell_else w pl 0 g _ hg)
  have hs : ((w.setCell ⟨pl, 0, none⟩ nilS).setCell ⟨pl, 1, none⟩ nilS).heap.size = w.heap.size := by simp
  have cp0 : w.cell? ⟨pl, 0, none⟩ = some L.vg := (World.cell?_of_block (a := ⟨pl, 0, none⟩) sp.2.2.2).trans h.late.c0
  have cp1 : w.cell? ⟨pl, 1, none⟩ = some L.vw := (World.cell?_of_block (a := ⟨pl, 1, none⟩) sp.2.2.2).trans h.late.c1
  have fp0 : w.frozen? ⟨pl, 0, none⟩ = false := (World.frozen?_of_block (a := ⟨pl, 0, none⟩) sp.2.2.2).trans h.late.f0
  have fp1 : w.frozen? ⟨pl, 1, none⟩ = false := (World.frozen?_of_block (a := ⟨pl, 1, none⟩) sp.2.2.2).trans h.late.f1
  have odd : ∀ g, lt g % 2 = 1 → g < w.heap.size ∧ tag g = 0 ∧ g ≠ pb ∧ w.heap[g]? = ws.heap[g]? := fun g hg => hh.safe g (by omega) (fun j _ => by omega)
  have oddp : ∀ g, lt g % 2 = 1 → g ≠ pl := fun g hg e => by rw [e, h.late.tp] at hg; omega
  have key : ∀ g, (if lt g % 2 = 0 ∧ g ≠ pl then 0 else lt g) ≠ 0 → lt g % 2 = 1 ∨ g = pl := fun g hg => by
    by_cases e : lt g % 2 = 0 ∧ g ≠ pl
    · rw [if_pos e] at hg; exact absurd rfl hg
    · by_cases e2 : g = pl
      · exact .inr e2
      · left; have : ¬ lt g % 2 = 0 := fun e3 => e ⟨e3, e2⟩; omega
  refine ⟨hh.book.keep (by omega) (fun g hg => hel g (fun e => hg (by rw [e]; exact sp.2.1))) (hel pb (fun e => sp.2.2.1 e.symm)), ?_, ?_, fun g hg => ?_, fun g hg => ?_, hh.bt, fun g hg => ?_, h.bp, hh.bel.trans ⟨rfl, rfl, rfl, by omega, fun g hg => hel g (fun e => by have := h.bl pl (by rw [h.late.tp]; decide); omega)⟩, ⟨rfl, rfl⟩, h.e2⟩
  · refine ⟨?_, ?_, by rw [World.frozen?_setCell, World.frozen?_setCell]; exact fp0, by rw [World.frozen?_setCell, World.frozen?_setCell]; exact fp1, by rw [hs]; exact sp.1, ?_, .inl ⟨rfl, rfl⟩, .inl ⟨rfl, rfl⟩, fun g hg => by simp [TwoSt.none, Value.ownBlock] at hg, fun g hg => by simp [TwoSt.none, Value.ownBlock] at hg, fun j hj => by simp [TwoSt.none] at hj, fun j hj => by simp [TwoSt.none] at hj⟩
    · rw [World.cell?_setCell_other _ _ _ _ (fun e => by injection e with e1 e2; omega)]
      exact World.cell?_setCell_same _ _ _ cp0
    · exact World.cell?_setCell_same _ _ _ ((World.cell?_setCell_other _ _ _ _ (fun e => by injection e with e1 e2; omega)).trans cp1)
    · show (if lt pl % 2 = 0 ∧ pl ≠ pl then 0 else lt pl) = 2 + 0
      rw [if_neg (fun e => e.2 rfl)]; exact h.late.tp
  · have hlt : ∀ g, lt g % 2 = 1 → (if lt g % 2 = 0 ∧ g ≠ pl then 0 else lt g) = lt g := fun g hg => if_neg (fun e => by omega)
    have hl := h.words
    have b1 : ∀ {e : TypeId} {v : Value} {n k : Nat} {f : Nat → Value}, Line ws e v n f → (∀ g, v.ownBlock = some g → lt g = k) → k % 2 = 1 → Line ((w.setCell ⟨pl, 0, none⟩ nilS).setCell ⟨pl, 1, none⟩ nilS) e v n f ∧ ∀ g, v.ownBlock = some g → (if lt g % 2 = 0 ∧ g ≠ pl then 0 else lt g) = k := fun hx hk h2 => ⟨hx.same (fun g hg => (hel g (oddp g (by rw [hk g hg]; exact h2))).trans (odd g (by rw [hk g hg]; exact h2)).2.2.2), fun g hg => (hlt g (by rw [hk g hg]; exact h2)).trans (hk g hg)⟩
    have b2 : ∀ {v : Value} {n k : Nat} {f : Nat → Value}, Rd ws v n f → (∀ g, v.ownBlock = some g → lt g = k) → k % 2 = 1 → Rd ((w.setCell ⟨pl, 0, none⟩ nilS).setCell ⟨pl, 1, none⟩ nilS) v n f ∧ ∀ g, v.ownBlock = some g → (if lt g % 2 = 0 ∧ g ≠ pl then 0 else lt g) = k := fun hx hk h2 => ⟨hx.same (by rw [hs]; exact hh.size) (fun g hg => (hel g (oddp g (by rw [hk g hg]; exact h2))).trans (odd g (by rw [hk g hg]; exact h2)).2.2.2), fun g hg => (hlt g (by rw [hk g hg]; exact h2)).trans (hk g hg)⟩
    have op := odd pw (by rw [hl.tp])
    have hpw := (hel pw (oddp pw (by rw [hl.tp]))).trans op.2.2.2
    have r1 := b1 hl.rg hl.tg (by omega)
    have r2 := b1 hl.rw hl.tw (by omega)
    exact ⟨(World.cell?_of_block (a := ⟨pw, 0, none⟩) hpw).trans hl.c0, (World.cell?_of_block (a := ⟨pw, 1, none⟩) hpw).trans hl.c1, (World.frozen?_of_block (a := ⟨pw, 0, none⟩) hpw).trans hl.f0, (World.frozen?_of_block (a := ⟨pw, 1, none⟩) hpw).trans hl.f1, by rw [hs]; exact op.1, (hlt pw (by rw [hl.tp])).trans hl.tp, r1.1, r2.1, r1.2, r2.2, fun j hj => b1 (hl.eg j hj).1 (hl.eg j hj).2 (by omega), fun j hj => b2 (hl.ew j hj).1 (hl.ew j hj).2 (by omega)⟩
  · rw [hs]
    rcases key g hg with e | e
    · exact (odd g e).1
    · rw [e]; exact sp.1
  · rcases key g hg with e | e
    · exact ⟨(odd g e).2.1, (odd g e).2.2.1⟩
    · rw [e]; exact ⟨sp.2.1, sp.2.2.1⟩
  · rcases key g hg with e | e
    · exact h.bl g (by omega)
    · rw [e]; exact h.bl pl (by rw [h.late.tp]; decide)
/-- all was handed over: the rows are nil now -/
theorem St.empty1 {B0 : Nat} {w0 ws w : World} {pb pl pw : Nat} {tag0 tag lt : Nat → Nat} {S0 S : BookSt} {L M : TwoSt} {k : Nat} (h : St B0 w0 ws pb pl pw tag0 lt S0 L M) (hh : Hand 1 B0 w0 ws w pb tag lt S k) :
    St B0 w0 ((w.setCell ⟨pw, 0, none⟩ nilS).setCell ⟨pw, 1, none⟩ nilS) pb pl pw tag (fun g => if lt g % 2 = 1 ∧ g ≠ pw then 0 else lt g) S L TwoSt.none := by
  have sp := hh.safe pw (by rw [h.words.tp]; decide) (fun j _ => by rw [h.words.tp]; omega)
  have hel : ∀ g, g ≠ pw → ((w.setCell ⟨pw, 0, none⟩ nilS).setCell ⟨pw, 1, none⟩ nilS).heap[g]? = w.heap[g]? := fun g hg => (setCell_else _ pw 1 g _ hg).trans (setCell_else w pw 0 g _ hg)
  have hs : ((w.setCell ⟨pw, 0, none⟩ nilS).setCell ⟨pw, 1, none⟩ nilS).heap.size = w.heap.size := by simp
  have cp0 : w.cell? ⟨pw, 0, none⟩ = some M.vg := (World.cell?_of_block (a := ⟨pw, 0, none⟩) sp.2.2.2).trans h.words.c0
  have cp1 : w.cell? ⟨pw, 1, none⟩ = some M.vw := (World.cell?_of_block (a := ⟨pw, 1, none⟩) sp.2.2.2).trans h.words.c1
  have fp0 : w.frozen? ⟨pw, 0, none⟩ = false := (World.frozen?_of_block (a := ⟨pw, 0, none⟩) sp.2.2.2).trans h.words.f0
  have fp1 : w.frozen? ⟨pw, 1, none⟩ = false := (World.frozen?_of_block (a := ⟨pw, 1, none⟩) sp.2.2.2).trans h.words.f1
  have odd : ∀ g, lt g % 2 = 0 ∧ lt g ≠ 0 → g < w.heap.size ∧ tag g = 0 ∧ g ≠ pb ∧ w.heap[g]? = ws.heap[g]? := fun g hg => hh.safe g (by omega) (fun j _ => by omega)
  have oddp : ∀ g, lt g % 2 = 0 ∧ lt g ≠ 0 → g ≠ pw := fun g hg e => by rw [e, h.words.tp] at hg; omega
  have key : ∀ g, (if lt g % 2 = 1 ∧ g ≠ pw then 0 else lt g) ≠ 0 → lt g % 2 = 0 ∧ lt g ≠ 0 ∨ g = pw := fun g hg => by
    by_cases e : lt g % 2 = 1 ∧ g ≠ pw
    · rw [if_pos e] at hg; exact absurd rfl hg
    · by_cases e2 : g = pw
      · exact .inr e2
      · left; rw [if_neg e] at hg; have : ¬ lt g % 2 = 1 := fun e3 => e ⟨e3, e2⟩; omega
  refine ⟨hh.book.keep (by omega) (fun g hg => hel g (fun e => hg (by rw [e]; exact sp.2.1))) (hel pb (fun e => sp.2.2.1 e.symm)), ?_, ?_, fun g hg => ?_, fun g hg => ?_, hh.bt, fun g hg => ?_, h.bp, hh.bel.trans ⟨rfl, rfl, rfl, by omega, fun g hg => hel g (fun e => by have := h.bl pw (by rw [h.words.tp]; decide); omega)⟩, h.e1, ⟨rfl, rfl⟩⟩
  · have hlt : ∀ g, lt g % 2 = 0 ∧ lt g ≠ 0 → (if lt g % 2 = 1 ∧ g ≠ pw then 0 else lt g) = lt g := fun g hg => if_neg (fun e => by omega)
    have hl := h.late
    have b1 : ∀ {e : TypeId} {v : Value} {n k : Nat} {f : Nat → Value}, Line ws e v n f → (∀ g, v.ownBlock = some g → lt g = k) → k % 2 = 0 ∧ k ≠ 0 → Line ((w.setCell ⟨pw, 0, none⟩ nilS).setCell ⟨pw, 1, none⟩ nilS) e v n f ∧ ∀ g, v.ownBlock = some g → (if lt g % 2 = 1 ∧ g ≠ pw then 0 else lt g) = k := fun hx hk h2 => ⟨hx.same (fun g hg => (hel g (oddp g (by rw [hk g hg]; exact h2))).trans (odd g (by rw [hk g hg]; exact h2)).2.2.2), fun g hg => (hlt g (by rw [hk g hg]; exact h2)).trans (hk g hg)⟩
    have b2 : ∀ {v : Value} {n k : Nat} {f : Nat → Value}, Rd ws v n f → (∀ g, v.ownBlock = some g → lt g = k) → k % 2 = 0 ∧ k ≠ 0 → Rd ((w.setCell ⟨pw, 0, none⟩ nilS).setCell ⟨pw, 1, none⟩ nilS) v n f ∧ ∀ g, v.ownBlock = some g → (if lt g % 2 = 1 ∧ g ≠ pw then 0 else lt g) = k := fun hx hk h2 => ⟨hx.same (by rw [hs]; exact hh.size) (fun g hg => (hel g (oddp g (by rw [hk g hg]; exact h2))).trans (odd g (by rw [hk g hg]; exact h2)).2.2.2), fun g hg => (hlt g (by rw [hk g hg]; exact h2)).trans (hk g hg)⟩
    have op := odd pl (by rw [hl.tp]; exact ⟨rfl, by decide⟩)
    have hpl := (hel pl (oddp pl (by rw [hl.tp]; exact ⟨rfl, by decide⟩))).trans op.2.2.2
    have r1 := b1 hl.rg hl.tg (by omega)
    have r2 := b1 hl.rw hl.tw (by omega)
    exact ⟨(World.cell?_of_block (a := ⟨pl, 0, none⟩) hpl).trans hl.c0, (World.cell?_of_block (a := ⟨pl, 1, none⟩) hpl).trans hl.c1, (World.frozen?_of_block (a := ⟨pl, 0, none⟩) hpl).trans hl.f0, (World.frozen?_of_block (a := ⟨pl, 1, none⟩) hpl).trans hl.f1, by rw [hs]; exact op.1, (hlt pl (by rw [hl.tp]; exact ⟨rfl, by decide⟩)).trans hl.tp, r1.1, r2.1, r1.2, r2.2, fun j hj => b1 (hl.eg j hj).1 (hl.eg j hj).2 (by omega), fun j hj => b2 (hl.ew j hj).1 (hl.ew j hj).2 (by omega)⟩
  · refine ⟨?_, ?_, by rw [World.frozen?_setCell, World.frozen?_setCell]; exact fp0, by rw [World.frozen?_setCell, World.frozen?_setCell]; exact fp1, by rw [hs]; exact sp.1, ?_, .inl ⟨rfl, rfl⟩, .inl ⟨rfl, rfl⟩, fun g hg => by simp [TwoSt.none, Value.ownBlock] at hg, fun g hg => by simp [TwoSt.none, Value.ownBlock] at hg, fun j hj => by simp [TwoSt.none] at hj, fun j hj => by simp [TwoSt.none] at hj⟩
    · rw [World.cell?_setCell_other _ _ _ _ (fun e => by injection e with e1 e2; omega)]
      exact World.cell?_setCell_same _ _ _ cp0
    · exact World.cell?_setCell_same _ _ _ ((World.cell?_setCell_other _ _ _ _ (fun e => by injection e with e1 e2; omega)).trans cp1)
    · show (if lt pw % 2 = 1 ∧ pw ≠ pw then 0 else lt pw) = 2 + 1
      rw [if_neg (fun e => e.2 rfl)]; exact h.words.tp
  · rw [hs]
    rcases key g hg with e | e
    · exact (odd g e).1
    · rw [e]; exact sp.1
  · rcases key g hg with e | e
    · exact ⟨(odd g e).2.1, (odd g e).2.2.1⟩
    · rw [e]; exact ⟨sp.2.1, sp.2.2.1⟩
  · rcases key g hg with e | e
    · exact h.bl g (by omega)
    · rw [e]; exact h.bl pw (by rw [h.words.tp]; decide)
end Go.Proofs.YtochdajeocganabDoor
