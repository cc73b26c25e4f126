/- The book of PostExact takes lists up. -/
import Derived.Test.YtjmnddcombepaaaDp
namespace Go.Proofs.Ytjmnddcombepaaa
open Go.ChangeShapes Go.WideShapes Go.ChangeAt Go.RowKit Go.Maps
set_option linter.unusedVariables false
set_option linter.unusedSimpArgs false
set_option maxRecDepth 100000
set_option maxHeartbeats 8000000
/-- the lists that came of one whose blocks have colour 9: they all have it now -/
theorem BK.mark {W wr : World} {X : Nat → Nat} {B0 bp : Nat} {D : BD} {e : TypeId} {s : Nat} {l0 : Ent} {L : List Ent} (h : BK W X B0 bp D) (hp : Ap W wr B0 e s l0 L) (hx : ∀ g, l0.v.ownBlock = some g → X g = 9) : ∃ X', BK wr X' B0 bp D ∧ Cx (fun k => k = 9) X W X' wr ∧ ∀ x ∈ L, ∀ g, x.v.ownBlock = some g → X' g = 9 := by
  classical
  have hc : Cx (fun k => k = 9) X W (fun b => if W.heap.size ≤ b ∧ ∃ x ∈ L, x.v.ownBlock = some b then 9 else X b) wr := ⟨hp.fl.os, hp.fl.tape, hp.fl.output, hp.fl.size, fun b hb hn => ⟨hp.fl.block b hb (fun x hx' e => by
    rw [List.mem_singleton.1 hx'] at e
    exact hn (hx b e)), if_neg (fun z => by omega)⟩⟩
  refine ⟨_, h.cx hc (fun k hk => .inr (by omega)) (fun b hb => ?_), hc, fun x hx' g hg => ?_⟩
  · split at hb
    · next z =>
      obtain ⟨z1, x, hx', hg⟩ := z
      exact ⟨hp.kl.lt hx' b hg, hp.kl.ge x hx' b hg⟩
    · have := h.lt b hb
      exact ⟨Nat.lt_of_lt_of_le this.1 hp.fl.size, this.2⟩
  · rcases hp.own x hx' g hg with z | z
    · rw [if_neg (fun q => by have := (h.lt g (by rw [hx g z]; decide)).1; omega)]
      exact hx g z
    · rw [if_pos ⟨z, x, hx', hg⟩]
theorem KL.join {w : World} {e : TypeId} {s B : Nat} {L M : List Ent} (h : KL w e s B L) (k : KL w e s B M) (hd : ∀ x ∈ L, ∀ y ∈ M, ∀ g, x.v.ownBlock = some g → y.v.ownBlock ≠ some g) : KL w e s B (L ++ M) :=
  ⟨fun x hx => by rcases List.mem_append.1 hx with hx | hx; exact h.row x hx; exact k.row x hx, fun x hx => by rcases List.mem_append.1 hx with hx | hx; exact h.ge x hx; exact k.ge x hx, fun x hx y hy g q r => by
    rcases List.mem_append.1 hx with hx | hx <;> rcases List.mem_append.1 hy with hy | hy
    · exact h.one x hx y hy g q r
    · exact absurd r (hd x hx y hy g q)
    · exact absurd q (hd y hy x hx g r)
    · exact k.one x hx y hy g q r⟩
theorem set_other (w : World) (g o : Nat) (u : Value) (b : Nat) (h : b ≠ g) : (w.setCell ⟨g, o, none⟩ u).heap[b]? = w.heap[b]? := Below.heap_setCell w ⟨g, o, none⟩ u b h
theorem gr_old {e : TypeId} {c m : Nat} {w w' : World} {v v' : Value} (hg : Gr e c m w w' v v') {g : Nat} (h : v'.ownBlock = some g) : v.ownBlock = some g ∨ g = w.heap.size := by
  rcases hg.how with ⟨g', cur, cur', k1, k2, -⟩ | ⟨k2, -⟩
  · have : some g' = some g := k2.symm.trans h
    cases this
    exact .inl k1
  · have : some w.heap.size = some g := k2.symm.trans h
    cases this
    exact .inr rfl
theorem gr_lt {e : TypeId} {c m : Nat} {w w' : World} {v v' : Value} (hg : Gr e c m w w' v v') {g : Nat} (h : v'.ownBlock = some g) (hv : ∀ g, v.ownBlock = some g → g < w.heap.size) : g < w'.heap.size := by
  rcases hg.how with ⟨g', cur, cur', k1, k2, k3, k4, -⟩ | ⟨k2, k3, -⟩
  · have : some g' = some g := k2.symm.trans h
    cases this
    exact (Array.getElem?_eq_some_iff.1 k4).1
  · have : some w.heap.size = some g := k2.symm.trans h
    cases this
    omega
/-- three lists of texts are taken up: their row and the row of their marks -/
theorem BK.addT {w3 w4 w5 w6 w7 : World} {X : Nat → Nat} {B0 bp : Nat} {D : BD} (h : BK w3 X B0 bp D) {P : List Ent} (hP3 : P.length = 3) (kp : KL w3 9 1 B0 P) (xp : ∀ x ∈ P, ∀ g, x.v.ownBlock = some g → X g = 9) (cp : ∀ x ∈ P, (∃ T, x.c = [.string (bs T)]) ∧ x.n ≤ 900000) (hna : D.na ≤ 1199)
    {a5 a7 : Option Addr} {c5 c7 : Nat} (b4 : Below w3.heap.size w3 w4)
    (r5 : Rws w5 47 1 (.slice a5 (D.na + 3) c5) (D.na + 3) (fun k => ((D.A ++ P).getD k ent0).v)) (g5 : Gr 47 (D.na * 1) 3 w4 w5 (.slice D.ta D.na D.tc) (.slice a5 (D.na + 3) c5))
    (b6 : Below (w5.setCell ⟨bp, 0, none⟩ (.slice a5 (D.na + 3) c5)).heap.size (w5.setCell ⟨bp, 0, none⟩ (.slice a5 (D.na + 3) c5)) w6)
    (r7 : Rws w7 9 1 (.slice a7 (D.na + 3) c7) (D.na + 3) (fun k => ((D.A ++ P).getD k ent0).c.getD 0 undef)) (g7 : Gr 9 (D.na * 1) 3 w6 w7 (.slice D.ma D.na D.mc) (.slice a7 (D.na + 3) c7)) :
    ∃ X' D', BK (w7.setCell ⟨bp, 2, none⟩ (.slice a7 (D.na + 3) c7)) X' B0 bp D' ∧ Cx (fun k => k = 1 ∨ k = 2 ∨ k = 4 ∨ k = 9) X w3 X' (w7.setCell ⟨bp, 2, none⟩ (.slice a7 (D.na + 3) c7)) := by
  classical
  have hbp := blk_lt h.cell
  have rlt : ∀ g, (Value.slice D.ta D.na D.tc).ownBlock = some g → g < w4.heap.size := fun g hg => Nat.lt_of_lt_of_le (h.ra.lt g hg) b4.size
  have s5 : w4.heap.size ≤ w5.heap.size := g5.size
  have s5' : (w5.setCell ⟨bp, 0, none⟩ (.slice a5 (D.na + 3) c5)).heap.size = w5.heap.size := by simp [World.setCell]
  have s6 : w5.heap.size ≤ w6.heap.size := by have := b6.size; omega
  have s7 : w6.heap.size ≤ w7.heap.size := g7.size
  have s8 : (w7.setCell ⟨bp, 2, none⟩ (.slice a7 (D.na + 3) c7)).heap.size = w7.heap.size := by simp [World.setCell]
  have s4 := b4.size
  have mlt : ∀ g, (Value.slice D.ma D.na D.mc).ownBlock = some g → g < w6.heap.size := fun g hg => by have := h.rm.lt g hg; omega
  -- what stays
  have key : ∀ b, b < w3.heap.size → b ≠ bp → (Value.slice D.ta D.na D.tc).ownBlock ≠ some b → (Value.slice D.ma D.na D.mc).ownBlock ≠ some b → (w7.setCell ⟨bp, 2, none⟩ (.slice a7 (D.na + 3) c7)).heap[b]? = w3.heap[b]? := fun b hb h1 h2 h3 => by
    rw [set_other _ _ _ _ _ h1, g7.other b (by omega) h3, b6.block b (by omega), set_other _ _ _ _ _ h1, g5.other b (by omega) h2, b4.block b hb]
  have colne : ∀ b k, X b = k → k ≠ 0 → k ≠ 1 → k ≠ 2 → k ≠ 4 → b < w3.heap.size ∧ (w7.setCell ⟨bp, 2, none⟩ (.slice a7 (D.na + 3) c7)).heap[b]? = w3.heap[b]? := fun b k hk h0 h1 h2 h4 => by
    have hl := (h.lt b (by omega)).1
    exact ⟨hl, key b hl (fun e => by have := h.xbp; rw [e] at hk; omega) (fun e => by have := h.xra b e; omega) (fun e => by have := h.xrm b e; omega)⟩
  -- the new rows' blocks
  have o5 : ∀ g, (Value.slice a5 (D.na + 3) c5).ownBlock = some g → (X g = 2 ∨ w3.heap.size ≤ g) ∧ g < w5.heap.size ∧ g ≠ bp ∧ (Value.slice D.ma D.na D.mc).ownBlock ≠ some g := fun g hg => by
    have hl := gr_lt g5 hg rlt
    rcases gr_old g5 hg with z | z
    · have hc := h.xra g z
      exact ⟨.inl hc, hl, fun e => by have := h.xbp; rw [e] at hc; omega, fun e => by have := h.xrm g e; omega⟩
    · exact ⟨.inr (by omega), hl, by omega, fun e => by have := h.rm.lt g e; omega⟩
  have o7 : ∀ g, (Value.slice a7 (D.na + 3) c7).ownBlock = some g → (X g = 4 ∨ w3.heap.size ≤ g) ∧ g < w7.heap.size ∧ g ≠ bp ∧ (Value.slice a5 (D.na + 3) c5).ownBlock ≠ some g := fun g hg => by
    have hl := gr_lt g7 hg mlt
    rcases gr_old g7 hg with z | z
    · have hc := h.xrm g z
      exact ⟨.inl hc, hl, fun e => by have := h.xbp; rw [e] at hc; omega, fun e => by have := (o5 g e).2.2.2; exact this z⟩
    · exact ⟨.inr (by omega), hl, by omega, fun e => by have := (o5 g e).2.1; omega⟩
  have k5 : ∀ g, (Value.slice a5 (D.na + 3) c5).ownBlock = some g → (w7.setCell ⟨bp, 2, none⟩ (.slice a7 (D.na + 3) c7)).heap[g]? = w5.heap[g]? := fun g hg => by
    obtain ⟨q1, q2, q3, q4⟩ := o5 g hg
    rw [set_other _ _ _ _ _ q3, g7.other g (by omega) q4, b6.block g (by omega), set_other _ _ _ _ _ q3]
  have k7 : ∀ g, (Value.slice a7 (D.na + 3) c7).ownBlock = some g → (w7.setCell ⟨bp, 2, none⟩ (.slice a7 (D.na + 3) c7)).heap[g]? = w7.heap[g]? := fun g hg => set_other _ _ _ _ _ (o7 g hg).2.2.1
  -- the book's own block
  have e4 : w4.heap[bp]? = some (.cells #[.slice D.ta D.na D.tc, .slice D.ha D.nh D.hc, .slice D.ma D.na D.mc, .slice D.ia D.nh D.ic] 63 (0, 0)) := (b4.block bp hbp).trans h.cell
  have e5 := (g5.other bp (by omega) (fun e => by have := h.xra bp e; have := h.xbp; omega)).trans e4
  have e5' := heap_setCell_same w5 bp 0 _ 63 (.slice a5 (D.na + 3) c5) e5
  have e6 := (b6.block bp (by omega)).trans e5'
  have e7 := (g7.other bp (by omega) (fun e => by have := h.xrm bp e; have := h.xbp; omega)).trans e6
  have e8 := heap_setCell_same w7 bp 2 _ 63 (.slice a7 (D.na + 3) c7) e7
  let X' : Nat → Nat := fun b => if X b = 9 then 6 else if (Value.slice a5 (D.na + 3) c5).ownBlock = some b then 2 else if (Value.slice a7 (D.na + 3) c7).ownBlock = some b then 4 else X b
  have hX : ∀ b, b < w3.heap.size → X b ≠ 9 → X' b = X b := fun b hb h9 => by
    show (if X b = 9 then 6 else if (Value.slice a5 (D.na + 3) c5).ownBlock = some b then 2 else if (Value.slice a7 (D.na + 3) c7).ownBlock = some b then 4 else X b) = X b
    rw [if_neg h9]
    split
    · next z => have := (o5 b z).1; omega
    · split
      · next z => have := (o7 b z).1; omega
      · rfl
  have hX9 : ∀ b, X b = 9 → X' b = 6 := fun b hb => by show (if X b = 9 then 6 else _) = 6; rw [if_pos hb]
  have hXc : ∀ b k, X b = k → k ≠ 0 → k ≠ 9 → X' b = k := fun b k hk h0 h9 => (hX b (h.lt b (by omega)).1 (by omega)).trans hk
  refine ⟨X', { D with A := D.A ++ P, ta := a5, na := D.na + 3, tc := c5, ma := a7, mc := c7 }, ⟨fun b hb => ?_, e8, hXc bp 1 h.xbp (by omega) (by omega), ?_, fun x hx g hg => ?_, ?_, fun x hx g hg => ?_, ?_, fun g hg => ?_, ?_, fun g hg => ?_, ?_, fun g hg => ?_, ?_, fun g hg => ?_, ?_, h.lb, by show D.na + 3 ≤ 1202; omega, h.fb, fun x hx => ?_, h.cb⟩, ⟨?_, ?_, ?_, ?_, fun b hb hn => ⟨?_, ?_⟩⟩⟩
  · rw [s8]
    by_cases z : X b = 0
    · have hb' : (if X b = 9 then 6 else if (Value.slice a5 (D.na + 3) c5).ownBlock = some b then 2 else if (Value.slice a7 (D.na + 3) c7).ownBlock = some b then 4 else X b) ≠ 0 := hb
      rw [if_neg (by omega)] at hb'
      split at hb'
      · next y =>
        have := o5 b y
        have hB := (h.lt bp (by rw [h.xbp]; decide)).2
        exact ⟨by omega, by omega⟩
      · split at hb'
        · next y =>
          have := o7 b y
          have hB := (h.lt bp (by rw [h.xbp]; decide)).2
          exact ⟨by omega, by omega⟩
        · exact absurd z hb'
    · have := h.lt b z
      exact ⟨by omega, this.2⟩
  · refine KL.same (w := w3) (h.ka.join kp (fun x hx y hy g q r => by have := h.xa x hx g q; have := xp y hy g r; omega)) (fun x hx g hg => ?_)
    rcases List.mem_append.1 hx with hx | hx
    · exact (colne g 6 (h.xa x hx g hg) (by omega) (by omega) (by omega) (by omega)).2
    · exact (colne g 9 (xp x hx g hg) (by omega) (by omega) (by omega) (by omega)).2
  · rcases List.mem_append.1 hx with hx | hx
    · exact hXc g 6 (h.xa x hx g hg) (by omega) (by omega)
    · exact hX9 g (xp x hx g hg)
  · exact h.kb.same fun x hx g hg => (colne g 7 (h.xb x hx g hg) (by omega) (by omega) (by omega) (by omega)).2
  · exact hXc g 7 (h.xb x hx g hg) (by omega) (by omega)
  · exact r5.same fun g hg => k5 g hg
  · show (if X g = 9 then 6 else if (Value.slice a5 (D.na + 3) c5).ownBlock = some g then 2 else _) = 2
    rw [if_neg (fun e => by have := (o5 g hg).1; have := h.lt g (by omega); omega), if_pos hg]
  · exact h.rb.same fun g hg => (colne g 3 (h.xrb g hg) (by omega) (by omega) (by omega) (by omega)).2
  · exact hXc g 3 (h.xrb g hg) (by omega) (by omega)
  · exact r7.same fun g hg => k7 g hg
  · show (if X g = 9 then 6 else if (Value.slice a5 (D.na + 3) c5).ownBlock = some g then 2 else if (Value.slice a7 (D.na + 3) c7).ownBlock = some g then 4 else X g) = 4
    rw [if_neg (fun e => by have := (o7 g hg).1; have := h.lt g (by omega); omega), if_neg (o7 g hg).2.2.2, if_pos hg]
  · exact h.ri.same fun g hg => (colne g 5 (h.xri g hg) (by omega) (by omega) (by omega) (by omega)).2
  · exact hXc g 5 (h.xri g hg) (by omega) (by omega)
  · show (D.A ++ P).length = D.na + 3
    rw [List.length_append, h.la, hP3]
  · rcases List.mem_append.1 hx with hx | hx
    · exact h.ca x hx
    · exact cp x hx
  · exact g7.os.trans (b6.os.trans (g5.os.trans b4.os))
  · exact g7.tape.trans (b6.tape.trans (g5.tape.trans b4.tape))
  · exact g7.output.trans (b6.output.trans (g5.output.trans b4.output))
  · rw [s8]; omega
  · exact key b hb (fun e => hn (.inl (by rw [e]; exact h.xbp))) (fun e => hn (.inr (.inl (h.xra b e)))) (fun e => hn (.inr (.inr (.inl (h.xrm b e)))))
  · exact hX b hb (fun e => hn (.inr (.inr (.inr e))))
/-- three lists of hits are taken up: their row and the row of their marks -/
theorem BK.addH {w3 w4 w5 w6 w7 : World} {X : Nat → Nat} {B0 bp : Nat} {D : BD} (h : BK w3 X B0 bp D) {P : List Ent} (hP3 : P.length = 3) (kp : KL w3 45 3 B0 P) (xp : ∀ x ∈ P, ∀ g, x.v.ownBlock = some g → X g = 9) (cp : ∀ x ∈ P, (∃ m : Nat, x.c = [.int .i64 m, .bool false, .string ⟨#[]⟩]) ∧ x.n ≤ 900000) (hna : D.nh ≤ 1199)
    {a5 a7 : Option Addr} {c5 c7 : Nat} (b4 : Below w3.heap.size w3 w4)
    (r5 : Rws w5 35 1 (.slice a5 (D.nh + 3) c5) (D.nh + 3) (fun k => ((D.B ++ P).getD k ent0).v)) (g5 : Gr 35 (D.nh * 1) 3 w4 w5 (.slice D.ha D.nh D.hc) (.slice a5 (D.nh + 3) c5))
    (b6 : Below (w5.setCell ⟨bp, 1, none⟩ (.slice a5 (D.nh + 3) c5)).heap.size (w5.setCell ⟨bp, 1, none⟩ (.slice a5 (D.nh + 3) c5)) w6)
    (r7 : Rws w7 3 1 (.slice a7 (D.nh + 3) c7) (D.nh + 3) (fun k => ((D.B ++ P).getD k ent0).c.getD 0 undef)) (g7 : Gr 3 (D.nh * 1) 3 w6 w7 (.slice D.ia D.nh D.ic) (.slice a7 (D.nh + 3) c7)) :
    ∃ X' D', BK (w7.setCell ⟨bp, 3, none⟩ (.slice a7 (D.nh + 3) c7)) X' B0 bp D' ∧ Cx (fun k => k = 1 ∨ k = 3 ∨ k = 5 ∨ k = 9) X w3 X' (w7.setCell ⟨bp, 3, none⟩ (.slice a7 (D.nh + 3) c7)) := by
  classical
  have hbp := blk_lt h.cell
  have rlt : ∀ g, (Value.slice D.ha D.nh D.hc).ownBlock = some g → g < w4.heap.size := fun g hg => Nat.lt_of_lt_of_le (h.rb.lt g hg) b4.size
  have s5 : w4.heap.size ≤ w5.heap.size := g5.size
  have s5' : (w5.setCell ⟨bp, 1, none⟩ (.slice a5 (D.nh + 3) c5)).heap.size = w5.heap.size := by simp [World.setCell]
  have s6 : w5.heap.size ≤ w6.heap.size := by have := b6.size; omega
  have s7 : w6.heap.size ≤ w7.heap.size := g7.size
  have s8 : (w7.setCell ⟨bp, 3, none⟩ (.slice a7 (D.nh + 3) c7)).heap.size = w7.heap.size := by simp [World.setCell]
  have s4 := b4.size
  have mlt : ∀ g, (Value.slice D.ia D.nh D.ic).ownBlock = some g → g < w6.heap.size := fun g hg => by have := h.ri.lt g hg; omega
  -- what stays
  have key : ∀ b, b < w3.heap.size → b ≠ bp → (Value.slice D.ha D.nh D.hc).ownBlock ≠ some b → (Value.slice D.ia D.nh D.ic).ownBlock ≠ some b → (w7.setCell ⟨bp, 3, none⟩ (.slice a7 (D.nh + 3) c7)).heap[b]? = w3.heap[b]? := fun b hb h1 h2 h3 => by
    rw [set_other _ _ _ _ _ h1, g7.other b (by omega) h3, b6.block b (by omega), set_other _ _ _ _ _ h1, g5.other b (by omega) h2, b4.block b hb]
  have colne : ∀ b k, X b = k → k ≠ 0 → k ≠ 1 → k ≠ 3 → k ≠ 5 → b < w3.heap.size ∧ (w7.setCell ⟨bp, 3, none⟩ (.slice a7 (D.nh + 3) c7)).heap[b]? = w3.heap[b]? := fun b k hk h0 h1 h2 h4 => by
    have hl := (h.lt b (by omega)).1
    exact ⟨hl, key b hl (fun e => by have := h.xbp; rw [e] at hk; omega) (fun e => by have := h.xrb b e; omega) (fun e => by have := h.xri b e; omega)⟩
  -- the new rows' blocks
  have o5 : ∀ g, (Value.slice a5 (D.nh + 3) c5).ownBlock = some g → (X g = 3 ∨ w3.heap.size ≤ g) ∧ g < w5.heap.size ∧ g ≠ bp ∧ (Value.slice D.ia D.nh D.ic).ownBlock ≠ some g := fun g hg => by
    have hl := gr_lt g5 hg rlt
    rcases gr_old g5 hg with z | z
    · have hc := h.xrb g z
      exact ⟨.inl hc, hl, fun e => by have := h.xbp; rw [e] at hc; omega, fun e => by have := h.xri g e; omega⟩
    · exact ⟨.inr (by omega), hl, by omega, fun e => by have := h.ri.lt g e; omega⟩
  have o7 : ∀ g, (Value.slice a7 (D.nh + 3) c7).ownBlock = some g → (X g = 5 ∨ w3.heap.size ≤ g) ∧ g < w7.heap.size ∧ g ≠ bp ∧ (Value.slice a5 (D.nh + 3) c5).ownBlock ≠ some g := fun g hg => by
    have hl := gr_lt g7 hg mlt
    rcases gr_old g7 hg with z | z
    · have hc := h.xri g z
      exact ⟨.inl hc, hl, fun e => by have := h.xbp; rw [e] at hc; omega, fun e => by have := (o5 g e).2.2.2; exact this z⟩
    · exact ⟨.inr (by omega), hl, by omega, fun e => by have := (o5 g e).2.1; omega⟩
  have k5 : ∀ g, (Value.slice a5 (D.nh + 3) c5).ownBlock = some g → (w7.setCell ⟨bp, 3, none⟩ (.slice a7 (D.nh + 3) c7)).heap[g]? = w5.heap[g]? := fun g hg => by
    obtain ⟨q1, q2, q3, q4⟩ := o5 g hg
    rw [set_other _ _ _ _ _ q3, g7.other g (by omega) q4, b6.block g (by omega), set_other _ _ _ _ _ q3]
  have k7 : ∀ g, (Value.slice a7 (D.nh + 3) c7).ownBlock = some g → (w7.setCell ⟨bp, 3, none⟩ (.slice a7 (D.nh + 3) c7)).heap[g]? = w7.heap[g]? := fun g hg => set_other _ _ _ _ _ (o7 g hg).2.2.1
  -- the book's own block
  have e4 : w4.heap[bp]? = some (.cells #[.slice D.ta D.na D.tc, .slice D.ha D.nh D.hc, .slice D.ma D.na D.mc, .slice D.ia D.nh D.ic] 63 (0, 0)) := (b4.block bp hbp).trans h.cell
  have e5 := (g5.other bp (by omega) (fun e => by have := h.xrb bp e; have := h.xbp; omega)).trans e4
  have e5' := heap_setCell_same w5 bp 1 _ 63 (.slice a5 (D.nh + 3) c5) e5
  have e6 := (b6.block bp (by omega)).trans e5'
  have e7 := (g7.other bp (by omega) (fun e => by have := h.xri bp e; have := h.xbp; omega)).trans e6
  have e8 := heap_setCell_same w7 bp 3 _ 63 (.slice a7 (D.nh + 3) c7) e7
  let X' : Nat → Nat := fun b => if X b = 9 then 7 else if (Value.slice a5 (D.nh + 3) c5).ownBlock = some b then 3 else if (Value.slice a7 (D.nh + 3) c7).ownBlock = some b then 5 else X b
  have hX : ∀ b, b < w3.heap.size → X b ≠ 9 → X' b = X b := fun b hb h9 => by
    show (if X b = 9 then 7 else if (Value.slice a5 (D.nh + 3) c5).ownBlock = some b then 3 else if (Value.slice a7 (D.nh + 3) c7).ownBlock = some b then 5 else X b) = X b
    rw [if_neg h9]
    split
    · next z => have := (o5 b z).1; omega
    · split
      · next z => have := (o7 b z).1; omega
      · rfl
  have hX9 : ∀ b, X b = 9 → X' b = 7 := fun b hb => by show (if X b = 9 then 7 else _) = 7; rw [if_pos hb]
  have hXc : ∀ b k, X b = k → k ≠ 0 → k ≠ 9 → X' b = k := fun b k hk h0 h9 => (hX b (h.lt b (by omega)).1 (by omega)).trans hk
  refine ⟨X', { D with B := D.B ++ P, ha := a5, nh := D.nh + 3, hc := c5, ia := a7, ic := c7 }, ⟨fun b hb => ?_, e8, hXc bp 1 h.xbp (by omega) (by omega), ?_, fun x hx g hg => ?_, ?_, fun x hx g hg => ?_, ?_, fun g hg => ?_, ?_, fun g hg => ?_, ?_, fun g hg => ?_, ?_, fun g hg => ?_, h.la, ?_, h.fa, by show D.nh + 3 ≤ 1202; omega, h.ca, fun x hx => ?_⟩, ⟨?_, ?_, ?_, ?_, fun b hb hn => ⟨?_, ?_⟩⟩⟩
  · rw [s8]
    by_cases z : X b = 0
    · have hb' : (if X b = 9 then 7 else if (Value.slice a5 (D.nh + 3) c5).ownBlock = some b then 3 else if (Value.slice a7 (D.nh + 3) c7).ownBlock = some b then 5 else X b) ≠ 0 := hb
      rw [if_neg (by omega)] at hb'
      split at hb'
      · next y =>
        have := o5 b y
        have hB := (h.lt bp (by rw [h.xbp]; decide)).2
        exact ⟨by omega, by omega⟩
      · split at hb'
        · next y =>
          have := o7 b y
          have hB := (h.lt bp (by rw [h.xbp]; decide)).2
          exact ⟨by omega, by omega⟩
        · exact absurd z hb'
    · have := h.lt b z
      exact ⟨by omega, this.2⟩
  · exact h.ka.same fun x hx g hg => (colne g 6 (h.xa x hx g hg) (by omega) (by omega) (by omega) (by omega)).2
  · exact hXc g 6 (h.xa x hx g hg) (by omega) (by omega)
  · refine KL.same (w := w3) (h.kb.join kp (fun x hx y hy g q r => by have := h.xb x hx g q; have := xp y hy g r; omega)) (fun x hx g hg => ?_)
    rcases List.mem_append.1 hx with hx | hx
    · exact (colne g 7 (h.xb x hx g hg) (by omega) (by omega) (by omega) (by omega)).2
    · exact (colne g 9 (xp x hx g hg) (by omega) (by omega) (by omega) (by omega)).2
  · rcases List.mem_append.1 hx with hx | hx
    · exact hXc g 7 (h.xb x hx g hg) (by omega) (by omega)
    · exact hX9 g (xp x hx g hg)
  · exact h.ra.same fun g hg => (colne g 2 (h.xra g hg) (by omega) (by omega) (by omega) (by omega)).2
  · exact hXc g 2 (h.xra g hg) (by omega) (by omega)
  · exact r5.same fun g hg => k5 g hg
  · show (if X g = 9 then 7 else if (Value.slice a5 (D.nh + 3) c5).ownBlock = some g then 3 else _) = 3
    rw [if_neg (fun e => by have := (o5 g hg).1; have := h.lt g (by omega); omega), if_pos hg]
  · exact h.rm.same fun g hg => (colne g 4 (h.xrm g hg) (by omega) (by omega) (by omega) (by omega)).2
  · exact hXc g 4 (h.xrm g hg) (by omega) (by omega)
  · exact r7.same fun g hg => k7 g hg
  · show (if X g = 9 then 7 else if (Value.slice a5 (D.nh + 3) c5).ownBlock = some g then 3 else if (Value.slice a7 (D.nh + 3) c7).ownBlock = some g then 5 else X g) = 5
    rw [if_neg (fun e => by have := (o7 g hg).1; have := h.lt g (by omega); omega), if_neg (o7 g hg).2.2.2, if_pos hg]
  · show (D.B ++ P).length = D.nh + 3
    rw [List.length_append, h.lb, hP3]
  · rcases List.mem_append.1 hx with hx | hx
    · exact h.cb x hx
    · exact cp x hx
  · exact g7.os.trans (b6.os.trans (g5.os.trans b4.os))
  · exact g7.tape.trans (b6.tape.trans (g5.tape.trans b4.tape))
  · exact g7.output.trans (b6.output.trans (g5.output.trans b4.output))
  · rw [s8]; omega
  · exact key b hb (fun e => hn (.inl (by rw [e]; exact h.xbp))) (fun e => hn (.inr (.inl (h.xrb b e)))) (fun e => hn (.inr (.inr (.inl (h.xri b e)))))
  · exact hX b hb (fun e => hn (.inr (.inr (.inr e))))
end Go.Proofs.Ytjmnddcombepaaa
