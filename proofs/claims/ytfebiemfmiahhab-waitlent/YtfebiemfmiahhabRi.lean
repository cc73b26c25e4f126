/- WaitLent: the law's state. -/
import Derived.Test.YtfebiemfmiahhabRh
import Derived.Test.YtfebiemfmiahhabPc
namespace Go.Proofs.Ytfebiemfmiahhab
open Go.ChangeShapes Go.WideShapes Go.ChangeAt Go.RowKit Go.Maps
set_option linter.unusedVariables false
set_option linter.unusedSimpArgs false
set_option maxRecDepth 100000
set_option maxHeartbeats 8000000
def ent0 : Ent := ⟨undef, 0, []⟩
/-- lists of places and of numbers that bear marks, the rows that hold them, the rows of the marks -/
structure LD where
  A : List Ent
  B : List Ent
  CA : List (List Value)
  CB : List (List Value)
  aa : Option Addr
  na : Nat
  ac : Nat
  ma : Option Addr
  mn : Nat
  mc : Nat
  ba : Option Addr
  nb : Nat
  bc : Nat
  ca : Option Addr
  nn : Nat
  nc : Nat
/-- all that is kept; X: each block's colour: 1 the two Waits', 2 lists of places, 3 lists of numbers, 4 to 7 the rows -/
structure LS (w0 W : World) (X : Nat → Nat) (ps p r T : Nat) (E : List En) (D : LD) : Prop where
  bel : Below w0.heap.size w0 W
  lt : ∀ b, X b ≠ 0 → b < W.heap.size ∧ w0.heap.size ≤ b
  sd : ∃ P Q, Sd w0 P Q W ps p r T E (E.map (·.x)) ∧ ∀ b, P b ∨ Q b → X b = 1
  xs : X ps = 1
  ka : KL W 46 2 w0.heap.size D.A
  xa : ∀ x ∈ D.A, ∀ g, x.v.ownBlock = some g → X g = 2
  kb : KL W 3 1 w0.heap.size D.B
  xb : ∀ x ∈ D.B, ∀ g, x.v.ownBlock = some g → X g = 3
  ra : Rws W 38 1 (.slice D.aa D.na D.ac) D.na (fun k => (D.A.getD k ent0).v)
  xra : ∀ g, (Value.slice D.aa D.na D.ac).ownBlock = some g → X g = 4
  rm : Rws W 46 2 (.slice D.ma D.mn D.mc) D.mn (fun k => D.CA.flatten.getD k undef)
  xrm : ∀ g, (Value.slice D.ma D.mn D.mc).ownBlock = some g → X g = 5
  rb : Rws W 51 1 (.slice D.ba D.nb D.bc) D.nb (fun k => (D.B.getD k ent0).v)
  xrb : ∀ g, (Value.slice D.ba D.nb D.bc).ownBlock = some g → X g = 6
  rn : Rws W 3 1 (.slice D.ca D.nn D.nc) D.nn (fun k => D.CB.flatten.getD k undef)
  xrn : ∀ g, (Value.slice D.ca D.nn D.nc).ownBlock = some g → X g = 7
  la : D.na ≤ D.A.length
  lb : D.nb ≤ D.B.length
/-- only blocks of one colour have changed -/
structure Ch (X : Nat → Nat) (k : Nat) (w w' : World) : Prop where
  os : w'.os = w.os
  tape : w'.tape = w.tape
  output : w'.output = w.output
  size : w.heap.size ≤ w'.heap.size
  block : ∀ b, b < w.heap.size → X b ≠ k → w'.heap[b]? = w.heap[b]?
/-- new blocks take the colour -/
def upc (X : Nat → Nat) (w w' : World) (k : Nat) : Nat → Nat := fun b => if w.heap.size ≤ b ∧ b < w'.heap.size then k else X b
theorem upc_old {X : Nat → Nat} {w w' : World} {k b : Nat} (h : b < w.heap.size) : upc X w w' k b = X b := by unfold upc; rw [if_neg (by omega)]
theorem upc_new {X : Nat → Nat} {w w' : World} {k b : Nat} (h : w.heap.size ≤ b) (h2 : b < w'.heap.size) : upc X w w' k b = k := by unfold upc; rw [if_pos ⟨h, h2⟩]
section
variable {w0 W W' : World} {X : Nat → Nat} {ps p r T : Nat} {E : List En} {D : LD}
theorem LS.col (h : LS w0 W X ps p r T E D) {b c : Nat} (hb : X b = c) (hc : c ≠ 0) {k : Nat} : upc X W W' k b = c := by
  rw [upc_old (h.lt b (by omega)).1]; exact hb
theorem LS.upl (h : LS w0 W X ps p r T E D) (hs : W.heap.size ≤ W'.heap.size) {k : Nat} : ∀ b, upc X W W' k b ≠ 0 → b < W'.heap.size ∧ w0.heap.size ≤ b := fun b hb => by
  unfold upc at hb
  have := h.bel.size
  split at hb
  · omega
  · have := h.lt b hb; omega
theorem Ch.bel {k : Nat} (hc : Ch X k W W') (h : LS w0 W X ps p r T E D) (hk : k ≠ 0) : Below w0.heap.size w0 W' :=
  ⟨hc.os.trans h.bel.os, hc.tape.trans h.bel.tape, hc.output.trans h.bel.output, Nat.le_trans h.bel.size hc.size, fun b hb => by
    have h0 : X b = 0 := by
      by_cases e : X b = 0
      · exact e
      · have := (h.lt b e).2; omega
    rw [hc.block b (Nat.lt_of_lt_of_le hb h.bel.size) (by omega)]
    exact h.bel.block b hb⟩
/-- the rest when blocks of colour k have changed -/
theorem LS.sdk (h : LS w0 W X ps p r T E D) {k : Nat} (hc : Ch X k W W') (hk : k ≠ 0) (h1 : k ≠ 1) : (∃ P Q, Sd w0 P Q W' ps p r T E (E.map (·.x)) ∧ ∀ b, P b ∨ Q b → upc X W W' k b = 1) ∧ upc X W W' k ps = 1 := by
  obtain ⟨P, Q, s, hX⟩ := h.sd
  refine ⟨⟨P, Q, s.other (R := fun b => X b = k) ⟨hc.os, hc.tape, hc.output, hc.size, fun b hb hn => hc.block b hb hn⟩ (fun b hb => (h.lt b (by omega)).2) (fun b hb z => ?_) (fun b hb z => ?_) (fun hb => ?_), fun b z => h.col (hX b z) (by omega)⟩, h.col h.xs (by omega)⟩
  · have := hX b (.inl z); omega
  · have := hX b (.inr z); omega
  · have := h.xs; omega
theorem LS.kak (h : LS w0 W X ps p r T E D) {k : Nat} (hc : Ch X k W W') (h1 : k ≠ 2) : KL W' 46 2 w0.heap.size D.A ∧ ∀ x ∈ D.A, ∀ g, x.v.ownBlock = some g → upc X W W' k g = 2 :=
  ⟨h.ka.same fun x hx g hg => hc.block g (h.ka.lt hx g hg) (by have := h.xa x hx g hg; omega), fun x hx g hg => h.col (h.xa x hx g hg) (by omega)⟩
theorem LS.kbk (h : LS w0 W X ps p r T E D) {k : Nat} (hc : Ch X k W W') (h1 : k ≠ 3) : KL W' 3 1 w0.heap.size D.B ∧ ∀ x ∈ D.B, ∀ g, x.v.ownBlock = some g → upc X W W' k g = 3 :=
  ⟨h.kb.same fun x hx g hg => hc.block g (h.kb.lt hx g hg) (by have := h.xb x hx g hg; omega), fun x hx g hg => h.col (h.xb x hx g hg) (by omega)⟩
theorem row_keep (h : LS w0 W X ps p r T E D) {k c : Nat} (hc : Ch X k W W') (h1 : k ≠ c) (h0 : c ≠ 0) {e : TypeId} {s n : Nat} {v : Value} {f : Nat → Value} (hr : Rws W e s v n f) (hx : ∀ g, v.ownBlock = some g → X g = c) : Rws W' e s v n f ∧ ∀ g, v.ownBlock = some g → upc X W W' k g = c :=
  ⟨hr.same fun g hg => hc.block g (hr.lt g hg) (by have := hx g hg; omega), fun g hg => h.col (hx g hg) h0⟩
/-- only new blocks -/
theorem LS.below (h : LS w0 W X ps p r T E D) (hb : Below W.heap.size W W') : LS w0 W' X ps p r T E D := by
  obtain ⟨P, Q, s, hX⟩ := h.sd
  exact ⟨h.bel.trans (hb.mono h.bel.size), fun b hb' => ⟨Nat.lt_of_lt_of_le (h.lt b hb').1 hb.size, (h.lt b hb').2⟩, ⟨P, Q, s.below hb, hX⟩, h.xs, h.ka.below hb, h.xa, h.kb.below hb, h.xb, h.ra.below hb, h.xra, h.rm.below hb, h.xrm, h.rb.below hb, h.xrb, h.rn.below hb, h.xrn, h.la, h.lb⟩
/-- the Waits have changed -/
theorem LS.sd1 (h : LS w0 W X ps p r T E D) {R P' Q' : Nat → Prop} {T' : Nat} {E' : List En} (hf : Fr R W W') (hR : ∀ b, R b → X b = 1) (s : Sd w0 P' Q' W' ps p r T' E' (E'.map (·.x))) (hs : ∀ b, P' b ∨ Q' b → R b ∨ W.heap.size ≤ b) (hl : ∀ b, P' b ∨ Q' b → b < W'.heap.size) : LS w0 W' (upc X W W' 1) ps p r T' E' D := by
  have hc : Ch X 1 W W' := ⟨hf.os, hf.tape, hf.output, hf.size, fun b hb hn => hf.own b hb (fun z => hn (hR b z))⟩
  obtain ⟨a1, a2⟩ := h.kak hc (by omega)
  obtain ⟨b1, b2⟩ := h.kbk hc (by omega)
  obtain ⟨c1, c2⟩ := row_keep h hc (c := 4) (by omega) (by omega) h.ra h.xra
  obtain ⟨d1, d2⟩ := row_keep h hc (c := 5) (by omega) (by omega) h.rm h.xrm
  obtain ⟨e1, e2⟩ := row_keep h hc (c := 6) (by omega) (by omega) h.rb h.xrb
  obtain ⟨f1, f2⟩ := row_keep h hc (c := 7) (by omega) (by omega) h.rn h.xrn
  refine ⟨hc.bel h (by omega), h.upl hc.size, ⟨P', Q', s, fun b z => ?_⟩, h.col h.xs (by omega), a1, a2, b1, b2, c1, c2, d1, d2, e1, e2, f1, f2, h.la, h.lb⟩
  rcases hs b z with q | q
  · exact h.col (hR b q) (by omega)
  · exact upc_new q (hl b z)
/-- lists of places have changed, or more of them -/
theorem LS.ka2 (h : LS w0 W X ps p r T E D) {L : List Ent} {A' : List Ent} (hf : Fl L W W') (hL : ∀ x ∈ L, ∀ g, x.v.ownBlock = some g → X g = 2) (k' : KL W' 46 2 w0.heap.size A') (hx : ∀ x ∈ A', ∀ g, x.v.ownBlock = some g → X g = 2 ∨ W.heap.size ≤ g) (hp : ∃ M, A' = D.A ++ M) : LS w0 W' (upc X W W' 2) ps p r T E { D with A := A' } := by
  have hc : Ch X 2 W W' := ⟨hf.os, hf.tape, hf.output, hf.size, fun b hb hn => hf.block b hb (fun x hx' e => hn (hL x hx' b e))⟩
  obtain ⟨s1, s2⟩ := h.sdk hc (by omega) (by omega)
  obtain ⟨b1, b2⟩ := h.kbk hc (by omega)
  obtain ⟨c1, c2⟩ := row_keep h hc (c := 4) (by omega) (by omega) h.ra h.xra
  obtain ⟨d1, d2⟩ := row_keep h hc (c := 5) (by omega) (by omega) h.rm h.xrm
  obtain ⟨e1, e2⟩ := row_keep h hc (c := 6) (by omega) (by omega) h.rb h.xrb
  obtain ⟨f1, f2⟩ := row_keep h hc (c := 7) (by omega) (by omega) h.rn h.xrn
  obtain ⟨M, rfl⟩ := hp
  refine ⟨hc.bel h (by omega), h.upl hc.size, s1, s2, k', fun x hx' g hg => ?_, b1, b2, c1.congr fun j hj => ?_, c2, d1, d2, e1, e2, f1, f2, by have := h.la; show D.na ≤ (D.A ++ M).length; rw [List.length_append]; omega, h.lb⟩
  · rcases hx x hx' g hg with q | q
    · exact h.col q (by omega)
    · exact upc_new q (k'.lt hx' g hg)
  · have := h.la
    show (D.A.getD j ent0).v = ((D.A ++ M).getD j ent0).v
    rw [List.getD_eq_getElem?_getD, List.getD_eq_getElem?_getD, List.getElem?_append_left (by omega)]
theorem LS.kb3 (h : LS w0 W X ps p r T E D) {L : List Ent} {B' : List Ent} (hf : Fl L W W') (hL : ∀ x ∈ L, ∀ g, x.v.ownBlock = some g → X g = 3) (k' : KL W' 3 1 w0.heap.size B') (hx : ∀ x ∈ B', ∀ g, x.v.ownBlock = some g → X g = 3 ∨ W.heap.size ≤ g) (hp : ∃ M, B' = D.B ++ M) : LS w0 W' (upc X W W' 3) ps p r T E { D with B := B' } := by
  have hc : Ch X 3 W W' := ⟨hf.os, hf.tape, hf.output, hf.size, fun b hb hn => hf.block b hb (fun x hx' e => hn (hL x hx' b e))⟩
  obtain ⟨s1, s2⟩ := h.sdk hc (by omega) (by omega)
  obtain ⟨b1, b2⟩ := h.kak hc (by omega)
  obtain ⟨c1, c2⟩ := row_keep h hc (c := 4) (by omega) (by omega) h.ra h.xra
  obtain ⟨d1, d2⟩ := row_keep h hc (c := 5) (by omega) (by omega) h.rm h.xrm
  obtain ⟨e1, e2⟩ := row_keep h hc (c := 6) (by omega) (by omega) h.rb h.xrb
  obtain ⟨f1, f2⟩ := row_keep h hc (c := 7) (by omega) (by omega) h.rn h.xrn
  obtain ⟨M, rfl⟩ := hp
  refine ⟨hc.bel h (by omega), h.upl hc.size, s1, s2, b1, b2, k', fun x hx' g hg => ?_, c1, c2, d1, d2, e1.congr fun j hj => ?_, e2, f1, f2, h.la, by have := h.lb; show D.nb ≤ (D.B ++ M).length; rw [List.length_append]; omega⟩
  · rcases hx x hx' g hg with q | q
    · exact h.col q (by omega)
    · exact upc_new q (k'.lt hx' g hg)
  · have := h.lb
    show (D.B.getD j ent0).v = ((D.B ++ M).getD j ent0).v
    rw [List.getD_eq_getElem?_getD, List.getD_eq_getElem?_getD, List.getElem?_append_left (by omega)]
theorem gr_ch {c e m k : Nat} {v v' : Value} (hg : Gr e c m W W' v v') (hx : ∀ g, v.ownBlock = some g → X g = k) : Ch X k W W' :=
  ⟨hg.os, hg.tape, hg.output, hg.size, fun b hb hn => hg.other b hb (fun e2 => hn (hx b e2))⟩
theorem gr_own (h : LS w0 W X ps p r T E D) {c e m k : Nat} (hk : k ≠ 0) {v v' : Value} (hg : Gr e c m W W' v v') (hx : ∀ g, v.ownBlock = some g → X g = k) : ∀ g, v'.ownBlock = some g → upc X W W' k g = k := fun g hg' => by
  rcases hg.how with ⟨g', cur, cur', k1, k2, -⟩ | ⟨k2, k3, -⟩
  · have e2 : some g' = some g := k2.symm.trans hg'
    cases e2
    exact h.col (hx _ k1) hk
  · have e2 := k2.symm.trans hg'
    cases e2
    exact upc_new (Nat.le_refl _) (by omega)
theorem LS.ra4 (h : LS w0 W X ps p r T E D) {q c m : Nat} {a' : Option Addr} {c' : Nat} (hq : D.na + q ≤ D.A.length) (hg : Gr 38 c m W W' (.slice D.aa D.na D.ac) (.slice a' (D.na + q) c')) (hr : Rws W' 38 1 (.slice a' (D.na + q) c') (D.na + q) (fun k => (D.A.getD k ent0).v)) : LS w0 W' (upc X W W' 4) ps p r T E { D with aa := a', na := D.na + q, ac := c' } := by
  have hc : Ch X 4 W W' := gr_ch hg h.xra
  obtain ⟨s1, s2⟩ := h.sdk hc (by omega) (by omega)
  obtain ⟨a1, a2⟩ := h.kak hc (by omega)
  obtain ⟨b1, b2⟩ := h.kbk hc (by omega)
  obtain ⟨d1, d2⟩ := row_keep h hc (c := 5) (by omega) (by omega) h.rm h.xrm
  obtain ⟨e1, e2⟩ := row_keep h hc (c := 6) (by omega) (by omega) h.rb h.xrb
  obtain ⟨f1, f2⟩ := row_keep h hc (c := 7) (by omega) (by omega) h.rn h.xrn
  exact ⟨hc.bel h (by omega), h.upl hc.size, s1, s2, a1, a2, b1, b2, hr, gr_own h (by omega) hg h.xra, d1, d2, e1, e2, f1, f2, hq, h.lb⟩
theorem LS.rm5 (h : LS w0 W X ps p r T E D) {q c m : Nat} {a' : Option Addr} {c' : Nat} {C' : List (List Value)} (hg : Gr 46 c m W W' (.slice D.ma D.mn D.mc) (.slice a' (D.mn + q) c')) (hr : Rws W' 46 2 (.slice a' (D.mn + q) c') (D.mn + q) (fun k => C'.flatten.getD k undef)) : LS w0 W' (upc X W W' 5) ps p r T E { D with ma := a', mn := D.mn + q, mc := c', CA := C' } := by
  have hc : Ch X 5 W W' := gr_ch hg h.xrm
  obtain ⟨s1, s2⟩ := h.sdk hc (by omega) (by omega)
  obtain ⟨a1, a2⟩ := h.kak hc (by omega)
  obtain ⟨b1, b2⟩ := h.kbk hc (by omega)
  obtain ⟨c1, c2⟩ := row_keep h hc (c := 4) (by omega) (by omega) h.ra h.xra
  obtain ⟨e1, e2⟩ := row_keep h hc (c := 6) (by omega) (by omega) h.rb h.xrb
  obtain ⟨f1, f2⟩ := row_keep h hc (c := 7) (by omega) (by omega) h.rn h.xrn
  exact ⟨hc.bel h (by omega), h.upl hc.size, s1, s2, a1, a2, b1, b2, c1, c2, hr, gr_own h (by omega) hg h.xrm, e1, e2, f1, f2, h.la, h.lb⟩
theorem LS.rb6 (h : LS w0 W X ps p r T E D) {q c m : Nat} {a' : Option Addr} {c' : Nat} (hq : D.nb + q ≤ D.B.length) (hg : Gr 51 c m W W' (.slice D.ba D.nb D.bc) (.slice a' (D.nb + q) c')) (hr : Rws W' 51 1 (.slice a' (D.nb + q) c') (D.nb + q) (fun k => (D.B.getD k ent0).v)) : LS w0 W' (upc X W W' 6) ps p r T E { D with ba := a', nb := D.nb + q, bc := c' } := by
  have hc : Ch X 6 W W' := gr_ch hg h.xrb
  obtain ⟨s1, s2⟩ := h.sdk hc (by omega) (by omega)
  obtain ⟨a1, a2⟩ := h.kak hc (by omega)
  obtain ⟨b1, b2⟩ := h.kbk hc (by omega)
  obtain ⟨c1, c2⟩ := row_keep h hc (c := 4) (by omega) (by omega) h.ra h.xra
  obtain ⟨d1, d2⟩ := row_keep h hc (c := 5) (by omega) (by omega) h.rm h.xrm
  obtain ⟨f1, f2⟩ := row_keep h hc (c := 7) (by omega) (by omega) h.rn h.xrn
  exact ⟨hc.bel h (by omega), h.upl hc.size, s1, s2, a1, a2, b1, b2, c1, c2, d1, d2, hr, gr_own h (by omega) hg h.xrb, f1, f2, h.la, hq⟩
theorem LS.rn7 (h : LS w0 W X ps p r T E D) {q c m : Nat} {a' : Option Addr} {c' : Nat} {C' : List (List Value)} (hg : Gr 3 c m W W' (.slice D.ca D.nn D.nc) (.slice a' (D.nn + q) c')) (hr : Rws W' 3 1 (.slice a' (D.nn + q) c') (D.nn + q) (fun k => C'.flatten.getD k undef)) : LS w0 W' (upc X W W' 7) ps p r T E { D with ca := a', nn := D.nn + q, nc := c', CB := C' } := by
  have hc : Ch X 7 W W' := gr_ch hg h.xrn
  obtain ⟨s1, s2⟩ := h.sdk hc (by omega) (by omega)
  obtain ⟨a1, a2⟩ := h.kak hc (by omega)
  obtain ⟨b1, b2⟩ := h.kbk hc (by omega)
  obtain ⟨c1, c2⟩ := row_keep h hc (c := 4) (by omega) (by omega) h.ra h.xra
  obtain ⟨d1, d2⟩ := row_keep h hc (c := 5) (by omega) (by omega) h.rm h.xrm
  obtain ⟨e1, e2⟩ := row_keep h hc (c := 6) (by omega) (by omega) h.rb h.xrb
  exact ⟨hc.bel h (by omega), h.upl hc.size, s1, s2, a1, a2, b1, b2, c1, c2, d1, d2, e1, e2, hr, gr_own h (by omega) hg h.xrn, h.la, h.lb⟩
end
end Go.Proofs.Ytfebiemfmiahhab
