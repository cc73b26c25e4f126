/- PostExact: two Posts and the book, a step's state. -/
import Derived.Test.YtjmnddcombepaaaDt
import Derived.Test.YtjmnddcombepaaaPsm
namespace Go.Proofs.Ytjmnddcombepaaa
open Go.ChangeShapes Go.WideShapes Go.ChangeAt Go.RowKit Go.Maps
set_option linter.unusedVariables false
set_option linter.unusedSimpArgs false
set_option maxRecDepth 100000
set_option maxHeartbeats 8000000
theorem rws_of {W : World} {base e s n : Nat} {v : Value} {xs : List Value} (h : W.ownsRow base e s v n xs) : Rws W e s v n (fun k => xs.getD k undef) := by
  rcases h.2 with ⟨h1, h2⟩ | ⟨g, cap, cur, h1, h2, h3, h4, h5, h6, h7⟩
  · exact .inl ⟨h1, h2⟩
  · refine .inr ⟨g, cap, cur, h1, h3, h4, h5, h6, fun k hk => ?_⟩
    have hl := h.1
    have : xs[k]? = cur[k]? := by rw [← h7, List.getElem?_take, if_pos hk]; simp
    show _ = some (xs.getD k undef)
    rw [List.getD_eq_getElem?_getD, List.getElem?_eq_getElem (by omega), ← this, List.getElem?_eq_getElem (by omega)]
    rfl
/-- the changes that a step may make -/
def CK (κ : Nat) : Nat → Prop := fun k => (1 ≤ k ∧ k ≤ 9) ∨ k = κ
/-- a Post of the program, one of the document, and the book; X: colours, κ that of the two Posts -/
structure SV (w0 W : World) (X0 X : Nat → Nat) (κ B0 bp p b q : Nat) (D : BD) (S L : List Key) : Prop where
  bk : BK W X B0 bp D
  post : ∃ Dt, PostAt W p b Dt S
  doc : ∃ v, RPv W q v L ∧ ∀ g, v.ownBlock = some g → X g = κ
  xp : X p = κ
  xb : X b = κ
  xq : X q = κ
  k9 : 9 < κ
  cx : Cx (CK κ) X0 w0 X W
  b0 : B0 ≤ w0.heap.size
section
variable {w0 W W' : World} {X0 X : Nat → Nat} {κ B0 bp p b q : Nat} {D : BD} {S L : List Key}
theorem SV.below (h : SV w0 W X0 X κ B0 bp p b q D S L) (hb : Below W.heap.size W W') : SV w0 W' X0 X κ B0 bp p b q D S L := by
  obtain ⟨Dt, h1⟩ := h.post
  obtain ⟨v, h2, h3⟩ := h.doc
  exact ⟨h.bk.below hb, ⟨Dt, h1.below hb⟩, ⟨v, h2.below hb, h3⟩, h.xp, h.xb, h.xq, h.k9, h.cx.trans (Cx.of hb), h.b0⟩
theorem SV.size (h : SV w0 W X0 X κ B0 bp p b q D S L) : w0.heap.size ≤ W.heap.size := h.cx.size
/-- blocks of the book's colours have changed -/
theorem SV.book {X' : Nat → Nat} {D' : BD} {C : Nat → Prop} (h : SV w0 W X0 X κ B0 bp p b q D S L) (hk : BK W' X' B0 bp D') (hc : Cx C X W X' W') (hC : ∀ k, C k → 1 ≤ k ∧ k ≤ 9) : SV w0 W' X0 X' κ B0 bp p b q D' S L := by
  obtain ⟨Dt, h1⟩ := h.post
  obtain ⟨v, h2, h3⟩ := h.doc
  have k9 := h.k9
  have key : ∀ g, X g = κ → W'.heap[g]? = W.heap[g]? ∧ X' g = κ := fun g hg => by
    obtain ⟨z1, z2⟩ := hc.block g (h.bk.lt g (by omega)).1 (fun z => by have := hC _ z; omega)
    exact ⟨z1, z2.trans hg⟩
  exact ⟨hk, ⟨Dt, h1.same (key p h.xp).1 (key b h.xb).1⟩, ⟨v, ⟨(key q h.xq).1.trans h2.cell, h2.row.same fun g hg => (key g (h3 g hg)).1⟩, fun g hg => (key g (h3 g hg)).2⟩, (key p h.xp).2, (key b h.xb).2, (key q h.xq).2, k9, h.cx.trans (hc.mono (fun k hk => .inl (hC k hk))), h.b0⟩
/-- a new list takes a colour -/
theorem SV.paint (h : SV w0 W X0 X κ B0 bp p b q D S L) {v : Value} {c : Nat} (hc : c = 8 ∨ c = 9) (hv : ∀ g, v.ownBlock = some g → g < W.heap.size ∧ (X g = 8 ∨ X g = 9 ∨ X g = 0 ∧ w0.heap.size ≤ g)) : ∃ X', SV w0 W X0 X' κ B0 bp p b q D S L ∧ (∀ g, v.ownBlock = some g → X' g = c) ∧ ∀ g, v.ownBlock ≠ some g → X' g = X g := by
  classical
  have k9 := h.k9
  have b0 := h.b0
  let X' : Nat → Nat := fun g => if v.ownBlock = some g then c else X g
  have hX : ∀ g, v.ownBlock ≠ some g → X' g = X g := fun g hg => if_neg hg
  have hX1 : ∀ g, v.ownBlock = some g → X' g = c := fun g hg => if_pos hg
  have hcx : Cx (fun k => k = 0 ∨ k = 8 ∨ k = 9) X W X' W := ⟨rfl, rfl, rfl, Nat.le_refl _, fun g hg hn => ⟨rfl, hX g (fun e => by have := (hv g e).2; exact hn (by omega))⟩⟩
  have hlt : ∀ g, X' g ≠ 0 → g < W.heap.size ∧ B0 ≤ g := fun g hg => by
    by_cases e : v.ownBlock = some g
    · refine ⟨(hv g e).1, ?_⟩
      rcases (hv g e).2 with z | z | z
      · exact (h.bk.lt g (by omega)).2
      · exact (h.bk.lt g (by omega)).2
      · omega
    · rw [hX g e] at hg; exact h.bk.lt g hg
  have key : ∀ g, X g = κ → X' g = κ := fun g hg => (hX g (fun e => by have := (hv g e).2; omega)).trans hg
  obtain ⟨u, h2, h3⟩ := h.doc
  refine ⟨X', ⟨h.bk.cx hcx (fun k hk => by omega) hlt, h.post, ⟨u, h2, fun g hg => key g (h3 g hg)⟩, key p h.xp, key b h.xb, key q h.xq, k9, ⟨h.cx.os, h.cx.tape, h.cx.output, h.cx.size, fun g hg hn => ?_⟩, b0⟩, hX1, hX⟩
  obtain ⟨z1, z2⟩ := h.cx.block g hg hn
  refine ⟨z1, ?_⟩
  rw [hX g (fun e => ?_)]
  · exact z2
  · rcases (hv g e).2 with z | z | z
    · exact hn (.inl (by omega))
    · exact hn (.inl (by omega))
    · omega
/-- the program's Post has changed -/
theorem SV.post' {Dt' : Dt} {S' : List Key} (h : SV w0 W X0 X κ B0 bp p b q D S L) (hp : PostAt W' p b Dt' S') (hk : KeptB b W W') : SV w0 W' X0 X κ B0 bp p b q D S' L := by
  obtain ⟨v, h2, h3⟩ := h.doc
  obtain ⟨Dt, h1⟩ := h.post
  have k9 := h.k9
  have hc : Cx (fun k => k = κ) X W X W' := ⟨hk.os, hk.tape, hk.output, hk.size, fun g hg hn => ⟨hk.blk g hg (fun e => hn (by rw [e]; exact h.xb)), rfl⟩⟩
  have hm : ∀ c t f, W.heap[b]? ≠ some (.cells c t f) := fun c t f e => by obtain ⟨es, ck, z, -⟩ := h1.map.own; rw [z] at e; simp at e
  refine ⟨h.bk.cx hc (fun k hk => .inr (by omega)) (fun g hg => ⟨Nat.lt_of_lt_of_le (h.bk.lt g hg).1 hk.size, (h.bk.lt g hg).2⟩), ⟨Dt', hp⟩, ⟨v, ⟨(hk.blk q h2.lt (fun e => hm _ _ _ (by rw [← e]; exact h2.cell))).trans h2.cell, h2.row.same fun g hg => hk.blk g (h2.row.lt g hg) (fun e => by obtain ⟨c, hcc⟩ := h2.row.type g hg; exact hm _ _ _ (by rw [← e]; exact hcc))⟩, h3⟩, h.xp, h.xb, h.xq, k9, h.cx.trans (hc.mono (fun k hk => .inr hk)), h.b0⟩
/-- the document's Post has changed -/
theorem SV.doc' {v v' : Value} {L' : List Key} (h : SV w0 W X0 X κ B0 bp p b q D S L) (hv : ∀ g, v.ownBlock = some g → X g = κ) (h2 : RPv W q v L) (hp : RPv W' q v' L') (hk : DCh W W' q v v') : ∃ X', SV w0 W' X0 X' κ B0 bp p b q D S L' := by
  classical
  obtain ⟨Dt, h1⟩ := h.post
  have k9 := h.k9
  have b0 := h.b0
  have hs := h.size
  let X' : Nat → Nat := fun g => if v'.ownBlock = some g then κ else X g
  have hX : ∀ g, v'.ownBlock ≠ some g → X' g = X g := fun g hg => if_neg hg
  have hX1 : ∀ g, v'.ownBlock = some g → X' g = κ := fun g hg => if_pos hg
  have hold : ∀ g, g < W.heap.size → X' g = X g := fun g hg => by
    by_cases e : v'.ownBlock = some g
    · rw [hX1 g e]
      rcases hk.own g e with z | z
      · exact (hv g z).symm
      · omega
    · exact hX g e
  have hc : Cx (fun k => k = κ) X W X' W' := ⟨hk.os, hk.tape, hk.output, hk.size, fun g hg hn => ⟨hk.block g hg (fun e => hn (by rw [e]; exact h.xq)) (fun e => hn (hv g e)), hold g hg⟩⟩
  have hm : ∀ c t f, W.heap[b]? ≠ some (.cells c t f) := fun c t f e => by obtain ⟨es, ck, z, -⟩ := h1.map.own; rw [z] at e; simp at e
  have eb : W'.heap[b]? = W.heap[b]? := hk.block b h1.lt.2 (fun e => hm _ _ _ (by rw [e]; exact h2.cell)) (fun e => by obtain ⟨c, hcc⟩ := h2.row.type b e; exact hm _ _ _ hcc)
  have ep : W'.heap[p]? = W.heap[p]? := hk.block p h1.lt.1 (fun e => by have := h1.cell; rw [e, h2.cell] at this; simp at this) (fun e => by obtain ⟨c, hcc⟩ := h2.row.type p e; rw [h1.cell] at hcc; simp at hcc)
  refine ⟨X', h.bk.cx hc (fun k hk => .inr (by omega)) (fun g hg => ?_), ⟨Dt, h1.same ep eb⟩, ⟨v', hp, hX1⟩, (hold p h1.lt.1).trans h.xp, (hold b h1.lt.2).trans h.xb, (hold q h2.lt).trans h.xq, k9, h.cx.trans (hc.mono (fun k hk => .inr hk)), b0⟩
  by_cases e : v'.ownBlock = some g
  · refine ⟨hp.row.lt g e, ?_⟩
    rcases hk.own g e with z | z
    · exact (h.bk.lt g (by rw [hv g z]; omega)).2
    · omega
  · rw [hX g e] at hg
    exact ⟨Nat.lt_of_lt_of_le (h.bk.lt g hg).1 hk.size, (h.bk.lt g hg).2⟩
end
theorem owns_same {W W' : World} {base e s n : Nat} {v : Value} {xs : List Value} (h : W.ownsRow base e s v n xs) (hb : ∀ g, v.ownBlock = some g → W'.heap[g]? = W.heap[g]?) : W'.ownsRow base e s v n xs := by
  refine ⟨h.1, ?_⟩
  rcases h.2 with hn | ⟨g, cap, cur, rfl, hb', hgg, rest⟩
  · exact .inl hn
  · exact .inr ⟨g, cap, cur, rfl, hb', (hb g rfl).trans hgg, rest⟩
def Z0 (w0 : World) (X0 : Nat → Nat) (κ B0 bp p b q : Nat) (S L : List Key) (W : World) : Prop := ∃ X D, SV w0 W X0 X κ B0 bp p b q D S L
theorem Z0.below {w0 W W' : World} {X0 : Nat → Nat} {κ B0 bp p b q : Nat} {S L : List Key} (h : Z0 w0 X0 κ B0 bp p b q S L W) (hb : Below W.heap.size W W') : Z0 w0 X0 κ B0 bp p b q S L W' := by
  obtain ⟨X, D, h⟩ := h
  exact ⟨X, D, h.below hb⟩
/-- a list that was told, in blocks of one colour -/
def PdT (W : World) (X : Nat → Nat) (c : Nat) (v : Value) (l : List (List UInt8)) : Prop := (∃ base, OwnS W base v l) ∧ ∀ g, v.ownBlock = some g → X g = c
section
variable (w0 : World) (X0 : Nat → Nat) (κ B0 bp p b q : Nat) (S L : List Key)
def Z1 (W : World) (v : Value) (l : List (List UInt8)) : Prop := ∃ X D, SV w0 W X0 X κ B0 bp p b q D S L ∧ PdT W X 9 v l
def Z2 (W : World) (v v' : Value) (l : List (List UInt8)) : Prop := ∃ X D, SV w0 W X0 X κ B0 bp p b q D S L ∧ PdT W X 9 v l ∧ PdT W X 8 v' l
def Z3 (W : World) (v v' u : Value) (l : List (List UInt8)) : Prop := Z2 w0 X0 κ B0 bp p b q S L W v v' l ∧ ∃ base, OwnS W base u l
def Z4 (W : World) (v' : Value) (l : List (List UInt8)) : Prop := ∃ X D, SV w0 W X0 X κ B0 bp p b q D S L ∧ PdT W X 8 v' l
def Z5 (W : World) (v' u : Value) (l : List (List UInt8)) : Prop := Z4 w0 X0 κ B0 bp p b q S L W v' l ∧ ∃ base, OwnS W base u l
end
section
variable {w0 W W' : World} {X0 X : Nat → Nat} {κ B0 bp p b q : Nat} {D : BD} {S L : List Key}
theorem PdT.below {c : Nat} {v : Value} {l : List (List UInt8)} (h : PdT W X c v l) (hb : Below W.heap.size W W') : PdT W' X c v l := by
  obtain ⟨⟨base, h1⟩, h2⟩ := h
  exact ⟨⟨base, h1.below hb⟩, h2⟩
theorem PdT.lt {c : Nat} {v : Value} {l : List (List UInt8)} (h : PdT W X c v l) : ∀ g, v.ownBlock = some g → g < W.heap.size := fun g hg => by
  obtain ⟨⟨base, h1⟩, h2⟩ := h
  exact (h1.ge g hg).2
theorem PdT.cx {C : Nat → Prop} {X' : Nat → Nat} {c : Nat} {v : Value} {l : List (List UInt8)} (h : PdT W X c v l) (hc : Cx C X W X' W') (hC : ¬ C c) : PdT W' X' c v l := by
  have hl := h.lt
  obtain ⟨⟨base, h1⟩, h2⟩ := h
  refine ⟨⟨base, ?_⟩, fun g hg => ?_⟩
  · exact owns_same h1 (fun g hg => (hc.block g (hl g hg) (by rw [h2 g hg]; exact hC)).1)
  · have := hc.block g (hl g hg) (by rw [h2 g hg]; exact hC)
    exact this.2.trans (h2 g hg)
end
section
variable {w0 W W' : World} {X0 X : Nat → Nat} {κ B0 bp p b q : Nat} {D : BD} {S L : List Key}
theorem Z2.below {v v' : Value} {l : List (List UInt8)} (h : Z2 w0 X0 κ B0 bp p b q S L W v v' l) (hb : Below W.heap.size W W') : Z2 w0 X0 κ B0 bp p b q S L W' v v' l := by
  obtain ⟨X, D, h, h1, h2⟩ := h
  exact ⟨X, D, h.below hb, h1.below hb, h2.below hb⟩
theorem Z4.below {v' : Value} {l : List (List UInt8)} (h : Z4 w0 X0 κ B0 bp p b q S L W v' l) (hb : Below W.heap.size W W') : Z4 w0 X0 κ B0 bp p b q S L W' v' l := by
  obtain ⟨X, D, h, h2⟩ := h
  exact ⟨X, D, h.below hb, h2.below hb⟩
theorem Z0.zone {l : List (List UInt8)} (h : Z0 w0 X0 κ B0 bp p b q S L W) {f : Nat} {args : Array Value} (hc : Calls Try.prog f args W (SEnd W l)) : Calls Try.prog f args W fun e w' => ∃ a n c, e = .returned (.slice a n c) ∧ n = l.length ∧ Hid (Z1 w0 X0 κ B0 bp p b q S L w' (.slice a n c) l) := by
  refine hc.mono ?_
  rintro e w' ⟨a, n, c, rfl, H⟩
  obtain ⟨ho, hb, hn⟩ := unhide H
  obtain ⟨X, D, h⟩ := h
  have h1 := h.below hb
  obtain ⟨X', k1, k2, -⟩ := h1.paint (v := .slice a n c) (c := 9) (.inr rfl) (fun g hg => by
    have z := ho.ge g hg
    refine ⟨z.2, .inr (.inr ⟨?_, by have := h.size; omega⟩)⟩
    by_cases e : X g = 0
    · exact e
    · have := (h.bk.lt g e).1; omega)
  exact ⟨a, n, c, rfl, hn, hide ⟨X', D, k1, ⟨_, ho⟩, k2⟩⟩
theorem Z1.then {v : Value} {l : List (List UInt8)} (h : Z1 w0 X0 κ B0 bp p b q S L W v l) {f : Nat} {args : Array Value} (hc : Calls Try.prog f args W (SEnd W l)) : Calls Try.prog f args W fun e w' => ∃ a n c, e = .returned (.slice a n c) ∧ n = l.length ∧ Hid (Z2 w0 X0 κ B0 bp p b q S L w' v (.slice a n c) l) := by
  refine hc.mono ?_
  rintro e w' ⟨a, n, c, rfl, H⟩
  obtain ⟨ho, hb, hn⟩ := unhide H
  obtain ⟨X, D, h, hp⟩ := h
  have h1 := h.below hb
  have hp1 := hp.below hb
  obtain ⟨X', k1, k2, k3⟩ := h1.paint (v := .slice a n c) (c := 8) (.inl rfl) (fun g hg => by
    have z := ho.ge g hg
    refine ⟨z.2, .inr (.inr ⟨?_, by have := h.size; omega⟩)⟩
    by_cases e : X g = 0
    · exact e
    · have := (h.bk.lt g e).1; omega)
  refine ⟨a, n, c, rfl, hn, hide ⟨X', D, k1, ⟨hp1.1, fun g hg => ?_⟩, ⟨_, ho⟩, k2⟩⟩
  rw [k3 g (fun e => by have := ho.ge g e; have := hp.lt g hg; omega)]
  exact hp1.2 g hg
theorem Z2.doc {v v' : Value} {l : List (List UInt8)} (h : Z2 w0 X0 κ B0 bp p b q S L W v v' l) {f : Nat} {args : Array Value} (hc : Calls Try.prog f args W (SEnd W l)) : Calls Try.prog f args W fun e w' => ∃ a n c, e = .returned (.slice a n c) ∧ n = l.length ∧ Hid (Z3 w0 X0 κ B0 bp p b q S L w' v v' (.slice a n c) l) := by
  refine hc.mono ?_
  rintro e w' ⟨a, n, c, rfl, H⟩
  obtain ⟨ho, hb, hn⟩ := unhide H
  exact ⟨a, n, c, rfl, hn, hide ⟨h.below hb, _, ho⟩⟩
theorem Z3.same {a a' a2 : Option Addr} {n n' n2 c c' c2 : Nat} {l : List (List UInt8)} (h : Z3 w0 X0 κ B0 bp p b q S L W (.slice a n c) (.slice a' n' c') (.slice a2 n2 c2) l) (hn : n = l.length) (hn2 : n2 = l.length) (hl : l.length ≤ 800000) : Calls Try.prog 41 #[.slice a n c, .slice a2 n2 c2] W fun e w' => e = .returned (.bool true) ∧ Hid (Z2 w0 X0 κ B0 bp p b q S L w' (.slice a n c) (.slice a' n' c') l) := by
  obtain ⟨hz, b2, o2⟩ := h
  obtain ⟨X, D, hs, ⟨⟨b1, o1⟩, x1⟩, p2⟩ := hz
  refine (sameTexts_any W b1 b2 a a2 n n2 c c2 l o1 o2 hn hn2 (by omega)).mono ?_
  rintro e w' ⟨rfl, hb⟩
  exact ⟨rfl, hide ⟨X, D, hs.below (unhide hb), ⟨⟨b1, o1.below (unhide hb)⟩, x1⟩, p2.below (unhide hb)⟩⟩
theorem Z2.same {a a' : Option Addr} {n n' c c' : Nat} {l : List (List UInt8)} (h : Z2 w0 X0 κ B0 bp p b q S L W (.slice a n c) (.slice a' n' c') l) (hn : n = l.length) (hn' : n' = l.length) (hl : l.length ≤ 800000) : Calls Try.prog 41 #[.slice a' n' c', .slice a n c] W fun e w' => e = .returned (.bool true) ∧ Hid (Z2 w0 X0 κ B0 bp p b q S L w' (.slice a n c) (.slice a' n' c') l) := by
  have hz := h
  obtain ⟨X, D, hs, ⟨⟨b1, o1⟩, x1⟩, ⟨⟨b2, o2⟩, x2⟩⟩ := h
  refine (sameTexts_any W b2 b1 a' a n' n c' c l o2 o1 hn' hn (by omega)).mono ?_
  rintro e w' ⟨rfl, hb⟩
  exact ⟨rfl, hide (hz.below (unhide hb))⟩
theorem Z2.add {a : Option Addr} {n c : Nat} {v' : Value} {l : List (List UInt8)} (h : Z2 w0 X0 κ B0 bp p b q S L W (.slice a n c) v' l) (hn : n = l.length) (hl : l.length ≤ 800000) : Calls Try.prog 52 #[.pointer (some ⟨bp, 0, none⟩), .slice a n c] W fun e w' => e = .returned (.tuple #[]) ∧ Hid (Z4 w0 X0 κ B0 bp p b q S L w' v' l) := by
  obtain ⟨X, D, hs, ⟨⟨b1, o1⟩, x1⟩, p2⟩ := h
  subst hn
  refine (addtexts_any W X B0 bp D a _ c _ hs.bk (rws_of o1) x1 hl).mono ?_
  rintro e w' ⟨rfl, H⟩
  obtain ⟨X', D', z1, z2⟩ := unhide H
  exact ⟨rfl, hide ⟨X', D', hs.book z1 z2 (fun k hk => by omega), p2.cx z2 (by omega)⟩⟩
theorem Z4.doc {v' : Value} {l : List (List UInt8)} (h : Z4 w0 X0 κ B0 bp p b q S L W v' l) {f : Nat} {args : Array Value} (hc : Calls Try.prog f args W (SEnd W l)) : Calls Try.prog f args W fun e w' => ∃ a n c, e = .returned (.slice a n c) ∧ n = l.length ∧ Hid (Z5 w0 X0 κ B0 bp p b q S L w' v' (.slice a n c) l) := by
  refine hc.mono ?_
  rintro e w' ⟨a, n, c, rfl, H⟩
  obtain ⟨ho, hb, hn⟩ := unhide H
  exact ⟨a, n, c, rfl, hn, hide ⟨h.below hb, _, ho⟩⟩
theorem Z5.same {a' a2 : Option Addr} {n' n2 c' c2 : Nat} {l : List (List UInt8)} (h : Z5 w0 X0 κ B0 bp p b q S L W (.slice a' n' c') (.slice a2 n2 c2) l) (hn : n' = l.length) (hn2 : n2 = l.length) (hl : l.length ≤ 800000) : Calls Try.prog 41 #[.slice a' n' c', .slice a2 n2 c2] W fun e w' => e = .returned (.bool true) ∧ Hid (Z4 w0 X0 κ B0 bp p b q S L w' (.slice a' n' c') l) := by
  obtain ⟨hz, b2, o2⟩ := h
  obtain ⟨X, D, hs, ⟨⟨b1, o1⟩, x1⟩⟩ := hz
  refine (sameTexts_any W b1 b2 a' a2 n' n2 c' c2 l o1 o2 hn hn2 (by omega)).mono ?_
  rintro e w' ⟨rfl, hb⟩
  exact ⟨rfl, hide ⟨X, D, hs.below (unhide hb), ⟨⟨b1, o1.below (unhide hb)⟩, x1⟩⟩⟩
theorem Z4.add {a : Option Addr} {n c : Nat} {l : List (List UInt8)} (h : Z4 w0 X0 κ B0 bp p b q S L W (.slice a n c) l) (hn : n = l.length) (hl : l.length ≤ 800000) : Calls Try.prog 52 #[.pointer (some ⟨bp, 0, none⟩), .slice a n c] W fun e w' => e = .returned (.tuple #[]) ∧ Hid (Z0 w0 X0 κ B0 bp p b q S L w') := by
  obtain ⟨X, D, hs, hp⟩ := h
  have hl' := hp.lt
  obtain ⟨⟨b1, o1⟩, x1⟩ := hp
  subst hn
  obtain ⟨X1, k1, k2, -⟩ := hs.paint (v := .slice a l.length c) (c := 9) (.inr rfl) (fun g hg => ⟨hl' g hg, .inl (x1 g hg)⟩)
  refine (addtexts_any W X1 B0 bp D a _ c _ k1.bk (rws_of o1) k2 hl).mono ?_
  rintro e w' ⟨rfl, H⟩
  obtain ⟨X', D', z1, z2⟩ := unhide H
  exact ⟨rfl, hide ⟨X', D', k1.book z1 z2 (fun k hk => by omega)⟩⟩
end
/-- a list that was told, in blocks of one colour -/
def PdH (W : World) (X : Nat → Nat) (c : Nat) (v : Value) (l : List Hit) : Prop := (∃ base, OwnH W base v l) ∧ ∀ g, v.ownBlock = some g → X g = c
section
variable (w0 : World) (X0 : Nat → Nat) (κ B0 bp p b q : Nat) (S L : List Key)
def Y1 (W : World) (v : Value) (l : List Hit) : Prop := ∃ X D, SV w0 W X0 X κ B0 bp p b q D S L ∧ PdH W X 9 v l
def Y2 (W : World) (v v' : Value) (l : List Hit) : Prop := ∃ X D, SV w0 W X0 X κ B0 bp p b q D S L ∧ PdH W X 9 v l ∧ PdH W X 8 v' l
def Y3 (W : World) (v v' u : Value) (l : List Hit) : Prop := Y2 w0 X0 κ B0 bp p b q S L W v v' l ∧ ∃ base, OwnH W base u l
def Y4 (W : World) (v' : Value) (l : List Hit) : Prop := ∃ X D, SV w0 W X0 X κ B0 bp p b q D S L ∧ PdH W X 8 v' l
def Y5 (W : World) (v' u : Value) (l : List Hit) : Prop := Y4 w0 X0 κ B0 bp p b q S L W v' l ∧ ∃ base, OwnH W base u l
end
section
variable {w0 W W' : World} {X0 X : Nat → Nat} {κ B0 bp p b q : Nat} {D : BD} {S L : List Key}
theorem PdH.below {c : Nat} {v : Value} {l : List Hit} (h : PdH W X c v l) (hb : Below W.heap.size W W') : PdH W' X c v l := by
  obtain ⟨⟨base, h1⟩, h2⟩ := h
  exact ⟨⟨base, h1.below hb⟩, h2⟩
theorem PdH.lt {c : Nat} {v : Value} {l : List Hit} (h : PdH W X c v l) : ∀ g, v.ownBlock = some g → g < W.heap.size := fun g hg => by
  obtain ⟨⟨base, h1⟩, h2⟩ := h
  exact (h1.ge g hg).2
theorem PdH.cx {C : Nat → Prop} {X' : Nat → Nat} {c : Nat} {v : Value} {l : List Hit} (h : PdH W X c v l) (hc : Cx C X W X' W') (hC : ¬ C c) : PdH W' X' c v l := by
  have hl := h.lt
  obtain ⟨⟨base, h1⟩, h2⟩ := h
  refine ⟨⟨base, ?_⟩, fun g hg => ?_⟩
  · exact owns_same h1 (fun g hg => (hc.block g (hl g hg) (by rw [h2 g hg]; exact hC)).1)
  · have := hc.block g (hl g hg) (by rw [h2 g hg]; exact hC)
    exact this.2.trans (h2 g hg)
end
section
variable {w0 W W' : World} {X0 X : Nat → Nat} {κ B0 bp p b q : Nat} {D : BD} {S L : List Key}
theorem Y2.below {v v' : Value} {l : List Hit} (h : Y2 w0 X0 κ B0 bp p b q S L W v v' l) (hb : Below W.heap.size W W') : Y2 w0 X0 κ B0 bp p b q S L W' v v' l := by
  obtain ⟨X, D, h, h1, h2⟩ := h
  exact ⟨X, D, h.below hb, h1.below hb, h2.below hb⟩
theorem Y4.below {v' : Value} {l : List Hit} (h : Y4 w0 X0 κ B0 bp p b q S L W v' l) (hb : Below W.heap.size W W') : Y4 w0 X0 κ B0 bp p b q S L W' v' l := by
  obtain ⟨X, D, h, h2⟩ := h
  exact ⟨X, D, h.below hb, h2.below hb⟩
theorem Z0.yone {l : List Hit} (h : Z0 w0 X0 κ B0 bp p b q S L W) {f : Nat} {args : Array Value} (hc : Calls Try.prog f args W (HEnd W l)) : Calls Try.prog f args W fun e w' => ∃ a n c, e = .returned (.slice a n c) ∧ n = l.length ∧ Hid (Y1 w0 X0 κ B0 bp p b q S L w' (.slice a n c) l) := by
  refine hc.mono ?_
  rintro e w' ⟨a, n, c, rfl, H⟩
  obtain ⟨ho, hb, hn⟩ := unhide H
  obtain ⟨X, D, h⟩ := h
  have h1 := h.below hb
  obtain ⟨X', k1, k2, -⟩ := h1.paint (v := .slice a n c) (c := 9) (.inr rfl) (fun g hg => by
    have z := ho.ge g hg
    refine ⟨z.2, .inr (.inr ⟨?_, by have := h.size; omega⟩)⟩
    by_cases e : X g = 0
    · exact e
    · have := (h.bk.lt g e).1; omega)
  exact ⟨a, n, c, rfl, hn, hide ⟨X', D, k1, ⟨_, ho⟩, k2⟩⟩
theorem Y1.then {v : Value} {l : List Hit} (h : Y1 w0 X0 κ B0 bp p b q S L W v l) {f : Nat} {args : Array Value} (hc : Calls Try.prog f args W (HEnd W l)) : Calls Try.prog f args W fun e w' => ∃ a n c, e = .returned (.slice a n c) ∧ n = l.length ∧ Hid (Y2 w0 X0 κ B0 bp p b q S L w' v (.slice a n c) l) := by
  refine hc.mono ?_
  rintro e w' ⟨a, n, c, rfl, H⟩
  obtain ⟨ho, hb, hn⟩ := unhide H
  obtain ⟨X, D, h, hp⟩ := h
  have h1 := h.below hb
  have hp1 := hp.below hb
  obtain ⟨X', k1, k2, k3⟩ := h1.paint (v := .slice a n c) (c := 8) (.inl rfl) (fun g hg => by
    have z := ho.ge g hg
    refine ⟨z.2, .inr (.inr ⟨?_, by have := h.size; omega⟩)⟩
    by_cases e : X g = 0
    · exact e
    · have := (h.bk.lt g e).1; omega)
  refine ⟨a, n, c, rfl, hn, hide ⟨X', D, k1, ⟨hp1.1, fun g hg => ?_⟩, ⟨_, ho⟩, k2⟩⟩
  rw [k3 g (fun e => by have := ho.ge g e; have := hp.lt g hg; omega)]
  exact hp1.2 g hg
theorem Y2.doc {v v' : Value} {l : List Hit} (h : Y2 w0 X0 κ B0 bp p b q S L W v v' l) {f : Nat} {args : Array Value} (hc : Calls Try.prog f args W (HEnd W l)) : Calls Try.prog f args W fun e w' => ∃ a n c, e = .returned (.slice a n c) ∧ n = l.length ∧ Hid (Y3 w0 X0 κ B0 bp p b q S L w' v v' (.slice a n c) l) := by
  refine hc.mono ?_
  rintro e w' ⟨a, n, c, rfl, H⟩
  obtain ⟨ho, hb, hn⟩ := unhide H
  exact ⟨a, n, c, rfl, hn, hide ⟨h.below hb, _, ho⟩⟩
theorem Y3.same {a a' a2 : Option Addr} {n n' n2 c c' c2 : Nat} {l : List Hit} (h : Y3 w0 X0 κ B0 bp p b q S L W (.slice a n c) (.slice a' n' c') (.slice a2 n2 c2) l) (hn : n = l.length) (hn2 : n2 = l.length) (hl : l.length ≤ 800000) : Calls Try.prog 42 #[.slice a n c, .slice a2 n2 c2] W fun e w' => e = .returned (.bool true) ∧ Hid (Y2 w0 X0 κ B0 bp p b q S L w' (.slice a n c) (.slice a' n' c') l) := by
  obtain ⟨hz, b2, o2⟩ := h
  obtain ⟨X, D, hs, ⟨⟨b1, o1⟩, x1⟩, p2⟩ := hz
  refine (sameHits_any W b1 b2 a a2 n n2 c c2 l o1 o2 hn hn2 (by omega)).mono ?_
  rintro e w' ⟨rfl, hb⟩
  exact ⟨rfl, hide ⟨X, D, hs.below (unhide hb), ⟨⟨b1, o1.below (unhide hb)⟩, x1⟩, p2.below (unhide hb)⟩⟩
theorem Y2.same {a a' : Option Addr} {n n' c c' : Nat} {l : List Hit} (h : Y2 w0 X0 κ B0 bp p b q S L W (.slice a n c) (.slice a' n' c') l) (hn : n = l.length) (hn' : n' = l.length) (hl : l.length ≤ 800000) : Calls Try.prog 42 #[.slice a' n' c', .slice a n c] W fun e w' => e = .returned (.bool true) ∧ Hid (Y2 w0 X0 κ B0 bp p b q S L w' (.slice a n c) (.slice a' n' c') l) := by
  have hz := h
  obtain ⟨X, D, hs, ⟨⟨b1, o1⟩, x1⟩, ⟨⟨b2, o2⟩, x2⟩⟩ := h
  refine (sameHits_any W b2 b1 a' a n' n c' c l o2 o1 hn' hn (by omega)).mono ?_
  rintro e w' ⟨rfl, hb⟩
  exact ⟨rfl, hide (hz.below (unhide hb))⟩
theorem Y2.add {a : Option Addr} {n c : Nat} {v' : Value} {l : List Hit} (h : Y2 w0 X0 κ B0 bp p b q S L W (.slice a n c) v' l) (hn : n = l.length) (hl : l.length ≤ 800000) : Calls Try.prog 50 #[.pointer (some ⟨bp, 0, none⟩), .slice a n c] W fun e w' => e = .returned (.tuple #[]) ∧ Hid (Y4 w0 X0 κ B0 bp p b q S L w' v' l) := by
  obtain ⟨X, D, hs, ⟨⟨b1, o1⟩, x1⟩, p2⟩ := h
  subst hn
  refine (addhits_any W X B0 bp D a _ c _ hs.bk (rws_of o1) x1 hl).mono ?_
  rintro e w' ⟨rfl, H⟩
  obtain ⟨X', D', z1, z2⟩ := unhide H
  exact ⟨rfl, hide ⟨X', D', hs.book z1 z2 (fun k hk => by omega), p2.cx z2 (by omega)⟩⟩
theorem Y4.doc {v' : Value} {l : List Hit} (h : Y4 w0 X0 κ B0 bp p b q S L W v' l) {f : Nat} {args : Array Value} (hc : Calls Try.prog f args W (HEnd W l)) : Calls Try.prog f args W fun e w' => ∃ a n c, e = .returned (.slice a n c) ∧ n = l.length ∧ Hid (Y5 w0 X0 κ B0 bp p b q S L w' v' (.slice a n c) l) := by
  refine hc.mono ?_
  rintro e w' ⟨a, n, c, rfl, H⟩
  obtain ⟨ho, hb, hn⟩ := unhide H
  exact ⟨a, n, c, rfl, hn, hide ⟨h.below hb, _, ho⟩⟩
theorem Y5.same {a' a2 : Option Addr} {n' n2 c' c2 : Nat} {l : List Hit} (h : Y5 w0 X0 κ B0 bp p b q S L W (.slice a' n' c') (.slice a2 n2 c2) l) (hn : n' = l.length) (hn2 : n2 = l.length) (hl : l.length ≤ 800000) : Calls Try.prog 42 #[.slice a' n' c', .slice a2 n2 c2] W fun e w' => e = .returned (.bool true) ∧ Hid (Y4 w0 X0 κ B0 bp p b q S L w' (.slice a' n' c') l) := by
  obtain ⟨hz, b2, o2⟩ := h
  obtain ⟨X, D, hs, ⟨⟨b1, o1⟩, x1⟩⟩ := hz
  refine (sameHits_any W b1 b2 a' a2 n' n2 c' c2 l o1 o2 hn hn2 (by omega)).mono ?_
  rintro e w' ⟨rfl, hb⟩
  exact ⟨rfl, hide ⟨X, D, hs.below (unhide hb), ⟨⟨b1, o1.below (unhide hb)⟩, x1⟩⟩⟩
theorem Y4.add {a : Option Addr} {n c : Nat} {l : List Hit} (h : Y4 w0 X0 κ B0 bp p b q S L W (.slice a n c) l) (hn : n = l.length) (hl : l.length ≤ 800000) : Calls Try.prog 50 #[.pointer (some ⟨bp, 0, none⟩), .slice a n c] W fun e w' => e = .returned (.tuple #[]) ∧ Hid (Z0 w0 X0 κ B0 bp p b q S L w') := by
  obtain ⟨X, D, hs, hp⟩ := h
  have hl' := hp.lt
  obtain ⟨⟨b1, o1⟩, x1⟩ := hp
  subst hn
  obtain ⟨X1, k1, k2, -⟩ := hs.paint (v := .slice a l.length c) (c := 9) (.inr rfl) (fun g hg => ⟨hl' g hg, .inl (x1 g hg)⟩)
  refine (addhits_any W X1 B0 bp D a _ c _ k1.bk (rws_of o1) k2 hl).mono ?_
  rintro e w' ⟨rfl, H⟩
  obtain ⟨X', D', z1, z2⟩ := unhide H
  exact ⟨rfl, hide ⟨X', D', k1.book z1 z2 (fun k hk => by omega)⟩⟩
end
end Go.Proofs.Ytjmnddcombepaaa
