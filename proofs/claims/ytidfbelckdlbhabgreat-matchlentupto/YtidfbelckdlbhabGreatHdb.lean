/- lentHeld: Place.Bytes and Shelf.Bytes as it calls them. -/
import Derived.Test.YtidfbelckdlbhabGreatPla
import Derived.Test.YtidfbelckdlbhabGreatPlc
namespace Go.Proofs.YtidfbelckdlbhabGreat
open Go.ChangeShapes Go.WideShapes Go.ChangeAt Go.RowKit
set_option linter.unusedVariables false
set_option linter.unusedSimpArgs false
set_option maxRecDepth 20000
set_option maxHeartbeats 4000000

def PlE (w : World) (S : Nat → Prop) (pa : Nat) : Prop := ∃ oa oc ia ic no ni O I l, PlAt w S pa (.slice oa no oc) (.slice ia ni ic) no ni O I l
theorem PlAt.some {w : World} {S : Nat → Prop} {pa : Nat} {ov iv : Value} {no ni : Nat} {O I : Nat → Value} {l : List Nat} (h : PlAt w S pa ov iv no ni O I l) : PlE w S pa := by
  obtain ⟨oa, oc, rfl⟩ := h.orow.shape
  obtain ⟨ia, ic, rfl⟩ := h.irow.shape
  exact ⟨_, _, _, _, _, _, _, _, _, h⟩
theorem PlE.keep {w w' : World} {S S' : Nat → Prop} {pa : Nat} (h : PlE w S pa) (hb : ∀ b, b < w.heap.size → S b → w'.heap[b]? = w.heap[b]?) (hs : w.heap.size ≤ w'.heap.size) (hS : ∀ b, b < w.heap.size → S b → S' b) : PlE w' S' pa := by
  obtain ⟨oa, oc, ia, ic, no, ni, O, I, l, p⟩ := h
  have q := p.same hb
  exact ⟨oa, oc, ia, ic, no, ni, O, I, l, q.at', q.orow, q.irow, q.ent, q.oi, hS _ (block_lt p.at') p.sp, fun g hg => hS _ (p.orow.lt g hg) (p.so g hg), fun g hg => hS _ (p.irow.lt g hg) (p.si g hg), fun hn g hg => hS _ ((p.ent hn).lt g hg) (p.se hn g hg), q.one⟩
def ShE (w : World) (S S5 : Nat → Prop) (px sz : Nat) : Prop := ∃ xa xc wa wc n F G D, ShAt w px (.slice xa n xc) (.slice wa n wc) n F G D sz ∧ S px ∧ (∀ g, (Value.slice xa n xc).ownBlock = some g → S g) ∧ (∀ g, (Value.slice wa n wc).ownBlock = some g → S g) ∧ (∀ j g, j < n → (G j).ownBlock = some g → S g) ∧ ∀ j g, j < n → (F j).ownBlock = some g → S5 g
theorem ShE.keep {w w' : World} {S S5 S' S5' : Nat → Prop} {px sz : Nat} (h : ShE w S S5 px sz) (hb : ∀ b, b < w.heap.size → S b ∨ S5 b → w'.heap[b]? = w.heap[b]?) (hS : ∀ b, b < w.heap.size → S b → S' b) (hS5 : ∀ b, b < w.heap.size → S5 b → S5' b) : ShE w' S' S5' px sz := by
  obtain ⟨xa, xc, wa, wc, n, F, G, D, s, h1, h2, h3, h4, h5⟩ := h
  refine ⟨xa, xc, wa, wc, n, F, G, D, ⟨by rw [hb _ (block_lt s.at') (.inl h1)]; exact s.at', s.xr.same (fun g hg => hb g (s.xr.lt g hg) (.inl (h2 g hg))), s.gr.same (fun g hg => hb g (s.gr.lt g hg) (.inl (h3 g hg))), fun j hj => (s.fe j hj).same (fun g hg => hb g ((s.fe j hj).lt g hg) (.inr (h5 j g hj hg))), fun j hj => (s.ge j hj).same (fun g hg => hb g ((s.ge j hj).lt g hg) (.inl (h4 j g hj hg))), s.one, s.xw, s.len, s.few⟩, hS _ (block_lt s.at') h1, fun g hg => hS _ (s.xr.lt g hg) (h2 g hg), fun g hg => hS _ (s.gr.lt g hg) (h3 g hg), fun j g hj hg => hS _ ((s.ge j hj).lt g hg) (h4 j g hj hg), fun j g hj hg => hS5 _ ((s.fe j hj).lt g hg) (h5 j g hj hg)⟩
structure HdAt (w : World) (tg : Nat → Nat) (pp : Nat → Nat) (px sz : Nat) : Prop where
  pl : ∀ k, 1 ≤ k → k ≤ 3 → PlE w (fun b => tg b = k) (pp k)
  sh : ShE w (fun b => tg b = 4) (fun b => tg b = 5) px sz
/-- new blocks are k's -/
def tagN (tg : Nat → Nat) (n k : Nat) (b : Nat) : Nat := if b < n then tg b else k
theorem tagN_old {tg : Nat → Nat} {n k b : Nat} (h : b < n) : tagN tg n k b = tg b := if_pos h
theorem tagN_new {tg : Nat → Nat} {n k b : Nat} (h : n ≤ b) : tagN tg n k b = k := if_neg (by omega)
/-- what only allocates -/
theorem HdAt.below {w w' : World} {tg pp : Nat → Nat} {px sz : Nat} (h : HdAt w tg pp px sz) (hb : Below w.heap.size w w') : HdAt w' (tagN tg w.heap.size 0) pp px sz :=
  ⟨fun k h1 h2 => (h.pl k h1 h2).keep (fun b q _ => hb.block b q) hb.size (fun b q e => (tagN_old q).trans e), h.sh.keep (fun b q _ => hb.block b q) (fun b q e => (tagN_old q).trans e) (fun b q e => (tagN_old q).trans e)⟩
/-- a place is laid anew -/
theorem HdAt.placed {w w' : World} {tg pp : Nat → Nat} {px sz : Nat} (h : HdAt w tg pp px sz) (k : Nat) (h1 : 1 ≤ k) (h3 : k ≤ 3) (hk : Kept (fun b => tg b = k ∨ w.heap.size ≤ b) w w') (hp : PlE w' (fun b => tg b = k ∨ w.heap.size ≤ b) (pp k)) : HdAt w' (tagN tg w.heap.size k) pp px sz := by
  have fr : ∀ b, b < w.heap.size → tg b ≠ k → w'.heap[b]? = w.heap[b]? := fun b hb e => hk.blk b hb (fun q => q.elim e (fun q => by omega))
  refine ⟨fun j j1 j3 => ?_, h.sh.keep (fun b hb e => fr b hb (fun q => by rcases e with e | e <;> omega)) (fun b q e => (tagN_old q).trans e) (fun b q e => (tagN_old q).trans e)⟩
  by_cases q : j = k
  · subst q
    exact hp.keep (fun b _ _ => rfl) (Nat.le_refl _) (fun b _ e => by
      rcases Nat.lt_or_ge b w.heap.size with hb | hb
      · exact (tagN_old hb).trans (e.elim id (fun q => by omega))
      · exact tagN_new hb)
  · exact (h.pl j j1 j3).keep (fun b hb e => fr b hb (fun e2 => q (e.symm.trans e2))) hk.size (fun b q e => (tagN_old q).trans e)
/-- a list is laid on the shelf -/
def tagS (tg : Nat → Nat) (n : Nat) (v : Value) (b : Nat) : Nat := if b < n then (if v.ownBlock = some b then 5 else tg b) else 4
theorem tagS_old {tg : Nat → Nat} {n b : Nat} {v : Value} (h : b < n) (hv : v.ownBlock ≠ some b) : tagS tg n v b = tg b := by unfold tagS; rw [if_pos h, if_neg hv]
theorem tagS_own {tg : Nat → Nat} {n b : Nat} {v : Value} (h : b < n) (hv : v.ownBlock = some b) : tagS tg n v b = 5 := by unfold tagS; rw [if_pos h, if_pos hv]
theorem tagS_new {tg : Nat → Nat} {n b : Nat} {v : Value} (h : n ≤ b) : tagS tg n v b = 4 := if_neg (by omega)
theorem HdAt.shelved {w w' : World} {tg pp : Nat → Nat} {px sz sz' : Nat} {v : Value} {l : List Nat} (hpl : ∀ k, 1 ≤ k → k ≤ 3 → PlE w (fun b => tg b = k) (pp k)) {xa wa xa' wa' : Option Addr} {xc wc n xc' wc' n' : Nat} {F G F' G' : Nat → Value} {D D' : Nat → List Nat}
    (s : ShAt w px (.slice xa n xc) (.slice wa n wc) n F G D sz) (h1 : tg px = 4) (h2 : ∀ g, (Value.slice xa n xc).ownBlock = some g → tg g = 4) (h3 : ∀ g, (Value.slice wa n wc).ownBlock = some g → tg g = 4) (h4 : ∀ j g, j < n → (G j).ownBlock = some g → tg g = 4) (h5 : ∀ j g, j < n → (F j).ownBlock = some g → tg g = 5)
    (hv : Rws w 5 1 v l.length (byV l)) (hv0 : ∀ g, v.ownBlock = some g → tg g = 0) (s' : ShAt w' px (.slice xa' n' xc') (.slice wa' n' wc') n' F' G' D' sz') (t : ShTo w w' px (.slice xa n xc) (.slice wa n wc) n F G v (.slice xa' n' xc') (.slice wa' n' wc') n' F' G') :
    HdAt w' (tagS tg w.heap.size v) pp px sz' ∧ Kept (fun b => tg b = 4) w w' := by
  have fr : ∀ b, b < w.heap.size → tg b ≠ 4 → w'.heap[b]? = w.heap[b]? := fun b hb e => t.blk b hb (fun q => e (by rw [q]; exact h1)) (fun q => e (h2 b q)) (fun q => e (h3 b q))
  have o4 : ∀ g, tg g = 4 → tagS tg w.heap.size v g = 4 := fun g e => by
    rcases Nat.lt_or_ge g w.heap.size with q | q
    · rw [tagS_old q (fun e2 => by have := hv0 g e2; omega)]; exact e
    · exact tagS_new q
  refine ⟨⟨fun k k1 k3 => (hpl k k1 k3).keep (fun b hb e => fr b hb (by omega)) t.size (fun b hb e => (tagS_old hb (fun e2 => by have := hv0 b e2; omega)).trans e), ⟨xa', xc', wa', wc', n', F', G', D', s', o4 px h1, fun g hg => ?_, fun g hg => ?_, fun j g hj hg => ?_, fun j g hj hg => ?_⟩⟩, ⟨t.os, t.tape, t.output, t.size, fr⟩⟩
  · rcases t.own g (.inl hg) with q | q | q
    · exact o4 g (h2 g q)
    · exact o4 g (h3 g q)
    · exact tagS_new q
  · rcases t.own g (.inr hg) with q | q | q
    · exact o4 g (h2 g q)
    · exact o4 g (h3 g q)
    · exact tagS_new q
  · rcases t.gs j hj with ⟨i, hi, e⟩ | q
    · rw [e] at hg
      exact o4 g (h4 i g hi hg)
    · exact tagS_new (q g hg)
  · rcases t.fs j hj with ⟨i, hi, e⟩ | e
    · rw [e] at hg
      have q := (s.fe i hi).lt g hg
      have e5 := h5 i g hi hg
      rw [tagS_old q (fun e2 => by have := hv0 g e2; omega)]
      exact e5
    · rw [e] at hg
      exact tagS_own (hv.lt g hg) hg
end Go.Proofs.YtidfbelckdlbhabGreat
namespace Go.Proofs.YtidfbelckdlbhabGreat
open Go.ChangeShapes Go.WideShapes Go.ChangeAt Go.RowKit
set_option linter.unusedVariables false
set_option linter.unusedSimpArgs false
set_option maxRecDepth 20000
set_option maxHeartbeats 4000000

theorem hplace_any (w : World) (tg pp : Nat → Nat) (px sz k bc : Nat) (ba : Option Addr) (l : List Nat) (h : HdAt w tg pp px sz) (k1 : 1 ≤ k) (k3 : k ≤ 3) (hB : Bytes w ba l) (h0 : ∀ b off, 0 < l.length → ba = some ⟨b, off, none⟩ → tg b = 0) (hl : l.length ≤ 1073741824) :
    Calls Tryz.prog 22 #[.pointer (some ⟨pp k, 0, none⟩), .slice ba l.length bc] w fun e w' => ∃ va vc, e = .returned (.slice va l.length vc) ∧ Hid (HdAt w' (tagN tg w.heap.size k) pp px sz ∧ Kept (fun b => tg b = k) w w' ∧ Rws w' 5 1 (.slice va l.length vc) l.length (byV l) ∧ ∀ g, (Value.slice va l.length vc).ownBlock = some g → tagN tg w.heap.size k g = k) := by
  obtain ⟨oa, oc, ia, ic, no, ni, O, I, l0, p⟩ := h.pl k k1 k3
  have tk : ∀ b, (tg b = k ∨ w.heap.size ≤ b) → tagN tg w.heap.size k b = k := fun b e => by
    rcases Nat.lt_or_ge b w.heap.size with q | q
    · exact (tagN_old q).trans (e.elim id (fun q => by omega))
    · exact tagN_new q
  refine (plbytes_any w (fun b => tg b = k ∨ w.heap.size ≤ b) (pp k) oa ia oc ic no ni bc O I l0 l ba (p.mono (fun b _ e => .inl e)) (fun b hb => .inr hb) hB (fun b off hp e => ?_) hl).mono ?_
  · have hb : b < w.heap.size := by
      rcases hB with rfl | ⟨b', off', e', hb, _⟩
      · simp at hp
      · rw [e] at e'; cases e'; exact hb
    have := h0 b off hp e
    omega
  · rintro e w' ⟨va, vc, rfl, hq⟩
    obtain ⟨ov, iv, q, kp⟩ := unhide hq
    refine ⟨va, vc, rfl, hide ⟨h.placed k k1 k3 kp q.some, kp.mono (fun b hb e => e.elim id (fun q => by omega)), q.ent (by decide), fun g hg => tk g (q.se (by decide) g hg)⟩⟩
theorem hshelf_any (w : World) (tg pp : Nat → Nat) (px sz vc : Nat) (va : Option Addr) (l : List Nat) (h : HdAt w tg pp px sz) (hv : Rws w 5 1 (.slice va l.length vc) l.length (byV l)) (h0 : ∀ g, (Value.slice va l.length vc).ownBlock = some g → tg g = 0) (hsz : sz ≤ 1099511627776) (hl : l.length ≤ 1099511627776) :
    Calls Tryz.prog 26 #[.pointer (some ⟨px, 0, none⟩), .slice va l.length vc] w fun e w' => e = .returned (.tuple #[]) ∧ Hid (HdAt w' (tagS tg w.heap.size (.slice va l.length vc)) pp px (sz + l.length + 50) ∧ Kept (fun b => tg b = 4) w w') := by
  obtain ⟨xa, xc, wa, wc, n, F, G, D, s, h1, h2, h3, h4, h5⟩ := h.sh
  refine (shbytes_any w px xa wa va xc wc n vc F G D l sz s hv (fun j g hj hg e => ?_) hsz hl).mono ?_
  · have := h5 j g hj hg
    have := h0 g e
    omega
  · rintro e w' ⟨rfl, hq⟩
    obtain ⟨xa', xc', wa', wc', n', F', G', D', s', t⟩ := unhide hq
    exact ⟨rfl, hide (HdAt.shelved h.pl s h1 h2 h3 h4 h5 hv h0 s' t)⟩
theorem hgiven_any (w : World) (tg pp : Nat → Nat) (px sz : Nat) (h : HdAt w tg pp px sz) :
    Calls Tryz.prog 27 #[.pointer (some ⟨px, 0, none⟩)] w fun e w' => e = .returned (.bool true) ∧ Hid (Kept (fun b => tg b = 5) w w') := by
  obtain ⟨xa, xc, wa, wc, n, F, G, D, s, h1, h2, h3, h4, h5⟩ := h.sh
  refine (given_any w px xa wa xc wc n F G D sz s).mono ?_
  rintro e w' ⟨rfl, hq⟩
  have t := unhide hq
  exact ⟨rfl, hide ⟨t.os, t.tape, t.output, t.size, fun b hb hS => t.blk b hb (fun j hj e => hS (h5 j b hj e))⟩⟩
end Go.Proofs.YtidfbelckdlbhabGreat
