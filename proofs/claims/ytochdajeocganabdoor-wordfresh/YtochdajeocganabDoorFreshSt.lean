/- The book, and what was got and wanted beside it. -/
import Derived.Test.YtochdajeocganabDoorTwo
import Derived.Test.YtochdajeocganabDoorBookLook
namespace Go.Proofs.YtochdajeocganabDoor
open Go.ChangeShapes Go.WideShapes Go.ChangeAt Go.RowKit
set_option linter.unusedVariables false
set_option maxRecDepth 100000
set_option maxHeartbeats 4000000

/-- a change of what has tags of one kind -/
structure Chg (c : Nat) (lt lt' : Nat → Nat) (w w' : World) : Prop where
  os : w'.os = w.os
  tape : w'.tape = w.tape
  output : w'.output = w.output
  size : w.heap.size ≤ w'.heap.size
  tg : ∀ g, g < w.heap.size → lt' g = lt g
  blk : ∀ g, g < w.heap.size → (lt g = 0 ∨ lt g % 2 ≠ c % 2) → w'.heap[g]? = w.heap[g]?
  un : ∀ g, lt' g ≠ 0 → g < w'.heap.size
theorem Chg.refl {c : Nat} {lt : Nat → Nat} {w : World} (un : ∀ g, lt g ≠ 0 → g < w.heap.size) : Chg c lt lt w w := ⟨rfl, rfl, rfl, Nat.le_refl _, fun _ _ => rfl, fun _ _ _ => rfl, un⟩
theorem Chg.trans {c : Nat} {l1 l2 l3 : Nat → Nat} {a b d : World} (h : Chg c l1 l2 a b) (k : Chg c l2 l3 b d) : Chg c l1 l3 a d := by
  have hs := h.size
  exact ⟨k.os.trans h.os, k.tape.trans h.tape, k.output.trans h.output, Nat.le_trans h.size k.size, fun g hg => (k.tg g (by omega)).trans (h.tg g hg), fun g hg hh => (k.blk g (by omega) (by rw [h.tg g hg]; exact hh)).trans (h.blk g hg hh), k.un⟩
theorem Chg.below {c : Nat} {lt : Nat → Nat} {w w' : World} (un : ∀ g, lt g ≠ 0 → g < w.heap.size) (hb : Below w.heap.size w w') : Chg c lt lt w w' := ⟨hb.os, hb.tape, hb.output, hb.size, fun _ _ => rfl, fun g hg _ => hb.block g hg, fun g hg => Nat.lt_of_lt_of_le (un g hg) hb.size⟩
theorem Chg.set {c : Nat} {lt : Nat → Nat} {w : World} (un : ∀ g, lt g ≠ 0 → g < w.heap.size) (pl k : Nat) (v : Value) (h0 : lt pl ≠ 0) (h2 : lt pl % 2 = c % 2) : Chg c lt lt w (w.setCell ⟨pl, k, none⟩ v) :=
  ⟨rfl, rfl, rfl, by simp, fun _ _ => rfl, fun g _ hh => setCell_else w pl k g v (fun e => by subst e; rcases hh with hh | hh <;> contradiction), fun g hg => by simpa using un g hg⟩
theorem Chg.grew {c : Nat} {lt : Nat → Nat} {w w' : World} {e : TypeId} {n k : Nat} {u v v' : Value} {f : Nat → Value} (un : ∀ g, lt g ≠ 0 → g < w.heap.size) (hg : Grew e n u w w' v v') (hl : Line w e v n f) (hv : ∀ q, v.ownBlock = some q → lt q = k) (h0 : k ≠ 0) (h2 : k % 2 = c % 2) : Chg c lt (tagAt lt v' k) w w' :=
  ⟨hg.os, hg.tape, hg.output, hg.size, tagAt_old hg hv, fun g h1 hh => hg.other g h1 (fun e => by rw [hv g e] at hh; rcases hh with hh | hh <;> contradiction), tagAt_under hg un hl⟩
theorem BookAt.keep {w w' : World} {pb o : Nat} {tag : Nat → Nat} {S : BookSt} (h : BookAt w pb o tag S) (hs : w.heap.size ≤ w'.heap.size) (hb : ∀ g, tag g ≠ 0 → w'.heap[g]? = w.heap[g]?) (hp : w'.heap[pb]? = w.heap[pb]?) : BookAt w' pb o tag S :=
  ⟨h.fl.same hp hs, h.hb.same hb (Nat.le_refl _), h.hu.same hb (Nat.le_refl _), fun g hg => Nat.lt_of_lt_of_le (h.un g hg) hs, h.tp, h.eb, h.eu, h.nb, h.nu, h.cnt, h.us, h.tn⟩
def u8V (x : Nat) : Value := .int .u8 (x : Nat)
def u64V (x : Nat) : Value := .int .u64 (x : Nat)
/-- all of it -/
structure St (B0 : Nat) (w0 w : World) (pb pl pw : Nat) (tag lt : Nat → Nat) (S : BookSt) (L M : TwoSt) : Prop where
  book : BookAt w pb 0 tag S
  late : Two 0 5 46 u8V w pl lt L.vg L.vw L
  words : Two 1 45 47 u64V w pw lt M.vg M.vw M
  un : ∀ g, lt g ≠ 0 → g < w.heap.size
  ap : ∀ g, lt g ≠ 0 → tag g = 0 ∧ g ≠ pb
  bt : ∀ g, tag g ≠ 0 → B0 ≤ g
  bl : ∀ g, lt g ≠ 0 → B0 ≤ g
  bp : B0 ≤ pb
  bel : Below B0 w0 w
  e1 : L.W.length = L.G.length ∧ L.X.length = L.G.length
  e2 : M.W.length = M.G.length ∧ M.X.length = M.G.length
theorem St.below {B0 : Nat} {w0 w w' : World} {pb pl pw : Nat} {tag lt : Nat → Nat} {S : BookSt} {L M : TwoSt} (h : St B0 w0 w pb pl pw tag lt S L M) (hb : Below w.heap.size w w') (h0 : B0 ≤ w.heap.size) : St B0 w0 w' pb pl pw tag lt S L M :=
  ⟨h.book.keep hb.size (fun g hg => hb.block g (h.book.un g hg)) (hb.block pb h.book.fl.lt), h.late.below hb, h.words.below hb, fun g hg => Nat.lt_of_lt_of_le (h.un g hg) hb.size, h.ap, h.bt, h.bl, h.bp, h.bel.trans (hb.mono h0), h.e1, h.e2⟩
/-- what a change of one kind leaves of the book -/
theorem St.chg {B0 : Nat} {w0 w w' : World} {pb pl pw : Nat} {tag lt lt' : Nat → Nat} {S : BookSt} {L M : TwoSt} {c : Nat} (h : St B0 w0 w pb pl pw tag lt S L M) (h0 : B0 ≤ w.heap.size) (k : Chg c lt lt' w w') : BookAt w' pb 0 tag S ∧ (∀ g, lt' g ≠ 0 → tag g = 0 ∧ g ≠ pb) ∧ (∀ g, lt' g ≠ 0 → B0 ≤ g) ∧ Below B0 w0 w' := by
  have hz : ∀ g, tag g ≠ 0 → lt g = 0 := fun g hg => by
    by_cases e : lt g = 0
    · exact e
    · exact absurd (h.ap g e).1 hg
  have hzp : lt pb = 0 := by
    by_cases e : lt pb = 0
    · exact e
    · exact absurd rfl (h.ap pb e).2
  have hnew : ∀ g, lt' g ≠ 0 → w.heap.size ≤ g ∨ lt g ≠ 0 := fun g hg => by
    by_cases e : g < w.heap.size
    · right; rw [← k.tg g e]; exact hg
    · left; omega
  refine ⟨h.book.keep k.size (fun g hg => k.blk g (h.book.un g hg) (.inl (hz g hg))) (k.blk pb h.book.fl.lt (.inl hzp)), fun g hg => ?_, fun g hg => ?_, h.bel.trans ⟨k.os, k.tape, k.output, k.size, fun g hg => k.blk g (by omega) (.inl ?_)⟩⟩
  · rcases hnew g hg with e | e
    · refine ⟨?_, ?_⟩
      · by_cases e2 : tag g = 0
        · exact e2
        · have := h.book.un g e2; omega
      · have := h.book.fl.lt; omega
    · exact h.ap g e
  · rcases hnew g hg with e | e
    · omega
    · exact h.bl g e
  · by_cases e : lt g = 0
    · exact e
    · have := h.bl g e; omega
/-- the first kind has changed -/
theorem St.first {B0 : Nat} {w0 w w' : World} {pb pl pw : Nat} {tag lt lt' : Nat → Nat} {S : BookSt} {L M L' : TwoSt} (h : St B0 w0 w pb pl pw tag lt S L M) (h0 : B0 ≤ w.heap.size) (k : Chg 0 lt lt' w w') (hl : Two 0 5 46 u8V w' pl lt' L'.vg L'.vw L') (he : L'.W.length = L'.G.length ∧ L'.X.length = L'.G.length) : St B0 w0 w' pb pl pw tag lt' S L' M := by
  obtain ⟨h1, h2, h3, h4⟩ := h.chg h0 k
  exact ⟨h1, hl, h.words.conf k.size (fun g hg hn hm => k.blk g hg (.inr (by omega))) (fun g hg _ _ => k.tg g hg), k.un, h2, h.bt, h3, h.bp, h4, he, h.e2⟩
theorem St.second {B0 : Nat} {w0 w w' : World} {pb pl pw : Nat} {tag lt lt' : Nat → Nat} {S : BookSt} {L M M' : TwoSt} (h : St B0 w0 w pb pl pw tag lt S L M) (h0 : B0 ≤ w.heap.size) (k : Chg 1 lt lt' w w') (hl : Two 1 45 47 u64V w' pw lt' M'.vg M'.vw M') (he : M'.W.length = M'.G.length ∧ M'.X.length = M'.G.length) : St B0 w0 w' pb pl pw tag lt' S L M' := by
  obtain ⟨h1, h2, h3, h4⟩ := h.chg h0 k
  exact ⟨h1, h.late.conf k.size (fun g hg hn hm => k.blk g hg (.inr (by omega))) (fun g hg _ _ => k.tg g hg), hl, k.un, h2, h.bt, h3, h.bp, h4, h.e1, he⟩
/-- a free list gets a tag -/
theorem St.free {B0 : Nat} {w0 w : World} {pb pl pw : Nat} {tag lt : Nat → Nat} {S : BookSt} {L M : TwoSt} (h : St B0 w0 w pb pl pw tag lt S L M) (x : Value) (k : Nat) (hx : ∀ g, x.ownBlock = some g → lt g = 0 ∧ tag g = 0 ∧ g ≠ pb ∧ B0 ≤ g ∧ g < w.heap.size) : St B0 w0 w pb pl pw tag (tagAt lt x k) S L M := by
  have key : ∀ g, tagAt lt x k g ≠ 0 → x.ownBlock = some g ∨ lt g ≠ 0 := fun g hg => by
    unfold tagAt at hg
    by_cases e : x.ownBlock = some g
    · exact .inl e
    · rw [if_neg e] at hg; exact .inr hg
  refine ⟨h.book, h.late.free x k (fun g hg => (hx g hg).1), h.words.free x k (fun g hg => (hx g hg).1), fun g hg => ?_, fun g hg => ?_, h.bt, fun g hg => ?_, h.bp, h.bel, h.e1, h.e2⟩
  · rcases key g hg with e | e
    · exact (hx g e).2.2.2.2
    · exact h.un g e
  · rcases key g hg with e | e
    · exact ⟨(hx g e).2.1, (hx g e).2.2.1⟩
    · exact h.ap g e
  · rcases key g hg with e | e
    · exact (hx g e).2.2.2.1
    · exact h.bl g e
end Go.Proofs.YtochdajeocganabDoor
