/- writes: the bytes one by one. -/
import Derived.Test.YtidfllgaeiopjaaGreatShH
import Derived.Test.YtidfllgaeiopjaaGreatPool4
import Derived.Test.YtidfllgaeiopjaaGreatByteM
import Derived.Test.YtidfllgaeiopjaaGreatNums
namespace Go.Proofs.YtidfllgaeiopjaaGreat
open Go.ChangeShapes Go.WideShapes Go.ChangeAt Go.RowKit
set_option linter.unusedVariables false
set_option maxRecDepth 100000
set_option maxHeartbeats 1000000

/-- a heap on which at most n steps were made -/
structure Bnd (M : Hp) (n : Nat) : Prop where
  o1 : 1 ≤ M.objs.length
  ob : M.objs.length ≤ n + 1
  cl : M.coll ≤ 10 * n
  rz : M.resz ≤ 10 * n
  sl : M.slots.length ≤ n
  rt : M.roots.length ≤ n
  so : M.slots.length ≤ M.objs.length
theorem coll_slots {M M' : Hp} (h : IsColl M M') : M'.slots.length = M.slots.length := by
  obtain ⟨t, _, _, _, rfl⟩ := h
  show (slC M _).length = _
  unfold slC
  rw [List.length_map]
theorem becM_resz (M : Hp) (n : Nat) : (becM M n).resz ≤ M.resz + 1 ∧ (becM M n).coll = M.coll := by
  unfold becM
  split
  · exact ⟨Nat.le_succ _, rfl⟩
  · exact ⟨Nat.le_refl _, rfl⟩
theorem fitM_resz (M : Hp) (s : Nat) : (fitM M s).resz ≤ M.resz + 1 ∧ (fitM M s).coll = M.coll := by
  unfold fitM
  split
  · split
    · exact becM_resz _ _
    · exact ⟨Nat.le_succ _, rfl⟩
  · split
    · exact becM_resz _ _
    · exact ⟨Nat.le_succ _, rfl⟩
/-- what Alloc's collection may do to the numbers -/
structure Grown (M M1 : Hp) (c r s : Nat) : Prop where
  cl : M1.coll ≤ M.coll + c
  rz : M1.resz ≤ M.resz + r
  sl : M1.slots.length ≤ M.slots.length + s
  li : M1.limit = M.limit
theorem Grown.refl (M : Hp) : Grown M M 0 0 0 := ⟨Nat.le_refl _, Nat.le_refl _, Nat.le_refl _, rfl⟩
theorem Grown.fit {M M0 : Hp} (h : IsColl M M0) (s : Nat) : Grown M (fitM M0 s) 1 1 0 := by
  have q := h.nums
  have f := fitM_resz M0 s
  have o := fitM_objs M0 s
  exact ⟨by rw [f.2, q.2.2.1]; exact Nat.le_refl _, by have := f.1; rw [q.2.2.2.1] at this; exact this, by rw [o.2.2.2.2, coll_slots h]; exact Nat.le_refl _, by rw [o.2.2.1, q.1]⟩
theorem Grown.bec {M M1 : Hp} {c r s : Nat} (g : Grown M M1 c r s) (n : Nat) : Grown M (becM M1 n) c (r + 1) s := by
  have f := becM_resz M1 n
  have o := becM_parts M1 n
  exact ⟨by rw [f.2]; exact g.cl, by have := f.1; have := g.rz; omega, by rw [o.2.2.2.2.1]; exact g.sl, by rw [o.2.2.1]; exact g.li⟩
theorem Grown.mono {M M1 : Hp} {c r s c' r' s' : Nat} (g : Grown M M1 c r s) (h1 : c ≤ c') (h2 : r ≤ r') (h3 : s ≤ s') : Grown M M1 c' r' s' := ⟨by have := g.cl; omega, by have := g.rz; omega, by have := g.sl; omega, g.li⟩
theorem AllocR.grown {M M' : Hp} {k r s v x : Nat} (h : AllocR M k r s M' v x) : Grown M M' 1 2 1 := by
  rcases h with ⟨hs, M1, hp, h⟩ | ⟨hs, M1, hp, h⟩
  · have g : Grown M M1 1 1 0 := by
      rcases hp with ⟨_, rfl⟩ | ⟨_, M0, hc, rfl⟩
      · exact (Grown.refl _).mono (Nat.zero_le _) (Nat.zero_le _) (Nat.zero_le _)
      · exact .fit hc _
    rcases h with ⟨a, rfl, rfl, rfl⟩ | ⟨a, rfl, rfl, rfl⟩
    · exact ⟨g.cl, by have := g.rz; show M1.resz ≤ _; omega, by have := g.sl; show M1.slots.length ≤ _; omega, g.li⟩
    · exact g.mono (by omega) (by omega) (by omega)
  · have g : Grown M M1 1 1 0 := by
      rcases hp with ⟨_, _, rfl⟩ | ⟨_, M0, hc, rfl⟩
      · exact (Grown.refl _).mono (Nat.zero_le _) (Nat.zero_le _) (Nat.zero_le _)
      · exact .fit hc _
    rcases h with ⟨M2, n, a, al, rfl, rfl, rfl⟩ | ⟨a, rfl, rfl, rfl⟩
    · have g2 : Grown M M2 1 2 0 := by
        rcases a with ⟨_, rfl⟩ | ⟨_, _, _, _, rfl⟩
        · exact g.mono (by omega) (by omega) (by omega)
        · exact g.bec _
      refine ⟨g2.cl, g2.rz, ?_, g2.li⟩
      have := g2.sl
      show (if n < M2.slots.length then M2.slots.set n M2.objs.length else M2.slots ++ [M2.objs.length]).length ≤ _
      split
      · rw [List.length_set]; omega
      · rw [List.length_append]; show M2.slots.length + 1 ≤ _; omega
    · exact g.mono (by omega) (by omega) (by omega)

theorem AllocR.full_slots {M M' : Hp} {k r s v : Nat} (h : AllocR M k r s M' v 31) : M'.slots.length ≤ M.slots.length := by
  rcases h with ⟨hs, M1, hp, h⟩ | ⟨hs, M1, hp, h⟩
  · have g : M1.slots.length ≤ M.slots.length := by
      rcases hp with ⟨_, rfl⟩ | ⟨_, M0, hc, rfl⟩
      · exact Nat.le_refl _
      · exact (Grown.fit hc _).sl
    rcases h with ⟨a, _, q, _⟩ | ⟨a, _, _, rfl⟩
    · cases q
    · exact g
  · have g : M1.slots.length ≤ M.slots.length := by
      rcases hp with ⟨_, _, rfl⟩ | ⟨_, M0, hc, rfl⟩
      · exact Nat.le_refl _
      · exact (Grown.fit hc _).sl
    rcases h with ⟨M2, n, _, _, _, q, _⟩ | ⟨a, _, _, rfl⟩
    · cases q
    · exact g
/-- what a move MvMake does to the heap, and its errno -/
def MakeR (M : Hp) (k r s : Int) (M' : Hp) (last : Nat) : Prop :=
  (¬ Fits k r s ∧ M' = M ∧ last = 34) ∨ (Fits k r s ∧ ∃ M1 v, AllocR M k.toNat r.toNat s.toNat M1 v last ∧ ((last = 31 ∧ M' = M1) ∨ (last = 0 ∧ ∃ q, LowR M1 q ∧ M' = rootM M1 q v)))

theorem makes_any {w0 : Kp} {w : World} {ps ph : Nat} {tag st : Nat → Nat} {M : Hp} {H : HC} {ns : List (Nat × List Nat × List Nat)} {limit last : Nat} {C : ShC} (b : Both0 w0 w ps ph tag st M H ns limit last C) {n : Nat} (bd : Bnd M n) (hn : n ≤ 10000) (dd k r s hh gg : Int) (vv : Nat) (dv : Value) :
    Calls Tryz.prog 31 #[.pointer (some ⟨ps, 0, none⟩), mvV dd k r s hh gg vv dv] w fun e w' => e = .returned (.bool true) ∧ ∃ tag' st' M' H' ns' C' last', Both0 w0 w' ps ph tag' st' M' H' ns' limit last' C' ∧ Bnd M' (n + 1) ∧ MakeR M k r s M' last' := by
  have hb0 : ∀ W, Still (w.alloc (mvB dd k r s hh gg vv dv)) W → Below w.heap.size w W := fun W k => ((Below.refl _ _).alloc (Nat.le_refl _) _).trans (k.below.mono (by simp))
  have hps : st ps ≠ 0 := by rw [b.sh.t1]; decide
  have hpl := b.sh.un ps hps
  have hsz : ∀ W, Still (w.alloc (mvB dd k r s hh gg vv dv)) W → W.heap.size = w.heap.size + 1 := fun W k => by rw [k.heap]; simp
  have htz : tag w.heap.size = 0 := by
    by_cases q : tag w.heap.size = 0
    · exact q
    · exact absurd (b.he.raw.un _ q) (Nat.lt_irrefl _)
  have hcl := bd.cl
  have hrz := bd.rz
  have hsl := bd.sl
  have hrt := bd.rt
  have ho1 := bd.o1
  have hob := bd.ob
  by_cases hf : Fits k r s
  · obtain ⟨k', rfl⟩ : ∃ k' : Nat, k = (k' : Nat) := ⟨k.toNat, by have := hf.1; omega⟩
    obtain ⟨r', rfl⟩ : ∃ r' : Nat, r = (r' : Nat) := ⟨r.toNat, by have := hf.2.2.1; omega⟩
    obtain ⟨s', rfl⟩ : ∃ s' : Nat, s = (s' : Nat) := ⟨s.toNat, by have := hf.2.2.2.2.1; omega⟩
    by_cases hx : ∃ M1 v, AllocR M k' r' s' M1 v 0
    · obtain ⟨M1, v1, hA1⟩ := hx
      obtain ⟨aN, cN, hvN⟩ := b.sh.nd.shape
      have c1 := b.sh.c1
      rw [hvN] at c1
      have hlen : ns.length = M.objs.length := b.gr.ln
      have hgr := hA1.gr b.he.wf ho1
      have hapN : C.vN.ownBlock ≠ some ps := fun e => by have := b.sh.t2 ps e; rw [b.sh.t1] at this; cases this
      have hltN : C.vN.ownBlock ≠ some w.heap.size := fun e => absurd (b.sh.nd.lt _ e) (Nat.lt_irrefl _)
      rw [hvN] at hapN hltN
      refine (makes_ok (R := fun w' => ∃ tag' st' M' H' ns' C' last', Both0 w0 w' ps ph tag' st' M' H' ns' limit last' C' ∧ Bnd M' (n + 1) ∧ MakeR M k' r' s' M' last') dd k' r' s' hh gg vv dv ⟨by have := hf.1; omega, by have := hf.2.1; omega⟩ (by have := hf.2.2.2.1; omega) (by have := hf.2.2.2.2.2; omega) b.sh.c0 ⟨_, b.sh.c4⟩ (b.sh.fz 4 (by decide)) c1 (b.sh.fz 1 (by decide)) (by omega)
        (f := ndCell C ns) (G := fun v w1 => v = v1 ∧ ∃ tag' H', HAt w1 ph tag' M1 H' ∧ ∃ W, Still (w.alloc (mvB dd k' r' s' hh gg vv dv)) W ∧ Fr tag tag' W w1) hapN hltN (fun W hW => ?_) (fun v w1 hg => ?_) (fun v w1 W3 v9 r9 s9 hg hm => ?_)).mono (fun e w' h => h)
      · refine (halloc_any (b.he.still (hb0 W hW)) ho1 (by omega) (by omega) (by omega) k' r' s' hf).mono ?_
        rintro e w' ⟨tag', H', M', v, x, hA, f, rfl, hh'⟩
        obtain ⟨rfl, rfl, rfl⟩ := hA.one hA1
        have hz := hsz W hW
        exact ⟨v, rfl, (f.blk ps (by omega) (b.ap ps hps)).1, (f.blk w.heap.size (by omega) htz).1, rfl, tag', H', hh', W, hW, f⟩
      · obtain ⟨_, tag', H', hh', W, hW, f⟩ := hg
        have hz := hsz W hW
        rw [← hvN]
        refine b.sh.nd.same fun g e => ?_
        have hst : st g ≠ 0 := by rw [b.sh.t2 g e]; decide
        have hgl := b.sh.un g hst
        exact (f.blk g (by omega) (b.ap g hst)).1.trans ((hb0 W hW).block g hgl)
      · obtain ⟨rfl, tag', H', hh', W, hW, f⟩ := hg
        have hz := hsz W hW
        have hbW := hb0 W hW
        have hkeep : ∀ g, st g ≠ 0 → w1.heap[g]? = w.heap[g]? ∧ tag' g = 0 := fun g e => by
          have hgl := b.sh.un g e
          have q := f.blk g (by omega) (b.ap g e)
          exact ⟨q.1.trans (hbW.block g hgl), q.2⟩
        have hws : w.heap.size ≤ w1.heap.size := by have := f.size; omega
        have s1 : ShAt w1 ps ph st ns M1.roots limit last C := by rw [hgr.1]; exact b.sh.same hws fun g e => (hkeep g e).1
        have o1 : OwnK w0 w1 tag' := (b.o1.below hbW).fr f
        have o2 : OwnK w0 w1 st := ⟨o1.be, b.o2.tg, o1.kp⟩
        obtain ⟨s2, f2⟩ := s1.noted 0
        have hx0 : (0 : Nat) = 0 := rfl
        rcases hgr.2 with ⟨_, g1, g2, g3, g4⟩ | ⟨q, _⟩
        · have hms : (w1.setCell ⟨ps, 4, none⟩ (.int .i64 ((0 : Nat) : Int))).heap.size = w1.heap.size := World.size_setCell _ _ _
          have hbk : ∀ g, g < (w1.setCell ⟨ps, 4, none⟩ (.int .i64 ((0 : Nat) : Int))).heap.size → st g ≠ 1 → st g ≠ 2 → W3.heap[g]? = (w1.setCell ⟨ps, 4, none⟩ (.int .i64 ((0 : Nat) : Int))).heap[g]? := fun g hg h1 h2 => hm.blk g hg (by rintro rfl; exact h1 b.sh.t1) (fun e => h2 (by rw [← hvN] at e; exact b.sh.t2 g e))
          have hwd : Wide W3 69 3 v9 (ns.length + 1) (fun j => if j < ns.length * 3 then ndCell C ns j else [Value.int .i64 (k' : Nat), r9, s9].getD (j - ns.length * 3) undef) := hm.wide
          have hown : Own2 (w1.setCell ⟨ps, 4, none⟩ (.int .i64 ((0 : Nat) : Int))) C.vN v9 := by rw [hvN]; exact hm.own
          have s3 := s2.node k' r' s' hwd hm.refs hm.raws hown hm.ro hm.so hm.vr hm.vs hm.rs hm.c1 hm.size hbk hm.cc hm.ff
          have f3 : Fr st (tag3 st ns.length v9 r9 s9) (w1.setCell ⟨ps, 4, none⟩ (.int .i64 ((0 : Nat) : Int))) W3 := ⟨hm.os, hm.tape, hm.output, hm.size, fun g hg e => ⟨hbk g hg (by omega) (by omega), (tag3_old s2.t2 hown hm.ro hm.so g hg).trans e⟩⟩
          have b3 : Both0 w0 W3 ps ph tag' (tag3 st ns.length v9 r9 s9) M1 H' (ns ++ [(k', List.replicate r' 0, List.replicate s' 0)]) limit 0 _ := .mk2 hh' o1 o2 (fun g e => (hkeep g e).2) (hA1.grown.li.trans b.li) (f2.trans f3) s3 (g4 ns b.gr)
          obtain ⟨p1, p2, p3⟩ := num_back hh'.wf.ok g3
          rw [g2] at p1 p2 p3
          have hr1 : M1.roots.length = M.roots.length := by rw [hgr.1]
          have hcall := rooted_any b3 (by omega) v p2 (by unfold mayM; exact decide_eq_true (.inr (by rw [p1]; omega)))
          rw [p1, ← hlen] at hcall
          refine hcall.mono ?_
          rintro e w' ⟨rfl, q, t4, st4, H4, C4, low, b4, _⟩
          have gw := hA1.grown
          refine ⟨rfl, t4, st4, _, H4, _, C4, 0, b4, ⟨?_, ?_, ?_, ?_, ?_, ?_, ?_⟩, .inr ⟨hf, M1, v, hA1, .inr ⟨rfl, q, low, rfl⟩⟩⟩
          · show 1 ≤ M1.objs.length; omega
          · show M1.objs.length ≤ _; omega
          · show M1.coll ≤ _; have := gw.cl; omega
          · show M1.resz ≤ _; have := gw.rz; omega
          · show M1.slots.length ≤ _; have := gw.sl; omega
          · show (poolPut M1.roots q (numOf M1 v)).length ≤ _
            rw [poolPut_length]; split <;> omega
          · show M1.slots.length ≤ M1.objs.length; have := gw.sl; have := bd.so; omega
        · cases q
    · refine (makes_full (G := fun w1 => ∃ tag' H' M1 v, AllocR M k' r' s' M1 v 31 ∧ Both0 w0 w1 ps ph tag' st M1 H' ns limit last C) dd k' r' s' hh gg vv dv 31 (.inl ⟨rfl, ⟨hf.1, hf.2.1⟩, ⟨hf.2.2.1, hf.2.2.2.1⟩, ⟨hf.2.2.2.2.1, hf.2.2.2.2.2⟩⟩) b.sh.c0 ⟨_, b.sh.c4⟩ (b.sh.fz 4 (by decide)) (fun W hW => ?_)).mono ?_
      · have bW := b.below (hb0 W hW)
        refine (halloc_any bW.he ho1 (by omega) (by omega) (by omega) k' r' s' hf).mono ?_
        rintro e w' ⟨tag', H', M', v, x, hA, f, rfl, hh'⟩
        have hgr := hA.gr b.he.wf ho1
        have hz := hsz W hW
        rcases hgr.2 with ⟨rfl, _⟩ | ⟨rfl, rfl, g1, g2⟩
        · exact absurd ⟨_, _, hA⟩ hx
        · exact ⟨rfl, (f.blk ps (by omega) (b.ap ps hps)).1, (f.blk w.heap.size (by omega) htz).1, tag', H', M', 0, hA, bW.heap f hh' (g2 ns b.gr) hgr.1 hA.grown.li⟩
      · rintro e w' ⟨rfl, W, ⟨tag', H', M1, v, hA, b1⟩, k1⟩
        obtain ⟨s2, f2⟩ := b1.sh.noted 31
        have hgr := hA.gr b.he.wf ho1
        have gw := hA.grown
        have hr1 : M1.roots.length = M.roots.length := by rw [hgr.1]
        refine ⟨rfl, tag', st, M1, H', ns, C, 31, (b1.shad f2 s2 b1.gr).below k1.below, ⟨?_, ?_, ?_, ?_, ?_, ?_, ?_⟩, .inr ⟨hf, M1, v, hA, .inl ⟨rfl, rfl⟩⟩⟩
        · rw [← b1.gr.ln, b.gr.ln]; exact ho1
        · rw [← b1.gr.ln, b.gr.ln]; omega
        · have := gw.cl; omega
        · have := gw.rz; omega
        · have := gw.sl; omega
        · omega
        · have h1 := hA.full_slots; have h2 := bd.so; rw [← b1.gr.ln, b.gr.ln]; omega
  · have hf' := hf
    unfold Fits at hf'
    refine (makes_full (G := fun w1 => Both0 w0 w1 ps ph tag st M H ns limit last C) dd k r s hh gg vv dv 34 (.inr ⟨rfl, fun q => hf' ⟨q.1.1, q.1.2, q.2.1.1, q.2.1.2, q.2.2.1, q.2.2.2⟩⟩) b.sh.c0 ⟨_, b.sh.c4⟩ (b.sh.fz 4 (by decide)) (fun W hW => ?_)).mono ?_
    · refine (alloc_bad k r s hf).mono ?_
      rintro e w' ⟨rfl, rfl⟩
      exact ⟨rfl, rfl, rfl, b.below (hb0 _ hW)⟩
    · rintro e w' ⟨rfl, W, b1, k1⟩
      obtain ⟨s2, f2⟩ := b1.sh.noted 34
      exact ⟨rfl, tag, st, M, H, ns, C, 34, (b1.shad f2 s2 b1.gr).below k1.below, ⟨ho1, by omega, by omega, by omega, by omega, by omega, bd.so⟩, .inl ⟨hf, rfl, rfl⟩⟩
end Go.Proofs.YtidfllgaeiopjaaGreat
namespace Go.Proofs.YtidfllgaeiopjaaGreat
open Go.ChangeShapes Go.WideShapes Go.ChangeAt Go.RowKit
set_option linter.unusedVariables false
set_option maxRecDepth 100000
set_option maxHeartbeats 1000000

theorem nd_set (ns : List (Nat × List Nat × List Nat)) (i j : Nat) (x : Nat × List Nat × List Nat) (hi : i < ns.length) : (ns.set i x).getD j (0, [], []) = if j = i then x else ns.getD j (0, [], []) := by
  rw [List.getD_eq_getElem?_getD, List.getElem?_set]
  by_cases e : i = j
  · subst e; rw [if_pos rfl, if_pos hi, if_pos rfl]; rfl
  · rw [if_neg e, if_neg (Ne.symm e), List.getD_eq_getElem?_getD]
theorem ShAt.rewrite {w W : World} {ps ph : Nat} {st : Nat → Nat} {ns : List (Nat × List Nat × List Nat)} {hd : List (Option Nat)} {limit last : Nat} {C : ShC} (h : ShAt w ps ph st ns hd limit last C) (i : Nat) (hi : i < ns.length) (r s : List Nat) (hs : w.heap.size ≤ W.heap.size)
    (hb : ∀ g, st g ≠ 0 → st g ≠ 4 + 2 * i → st g ≠ 5 + 2 * i → W.heap[g]? = w.heap[g]?) (hR : Line W 3 (C.rf i) r.length (fun k => .int .i64 (r.getD k 0 : Nat))) (hS : Line W 30 (C.rw i) s.length (fun k => .int .u64 (s.getD k 0 : Nat))) :
    ShAt W ps ph st (ns.set i ((ns.getD i (0, [], [])).1, r, s)) hd limit last C := by
  have hp := hb ps (by rw [h.t1]; decide) (by rw [h.t1]; omega) (by rw [h.t1]; omega)
  have hg : ∀ n g, n ≠ 0 → n ≠ 4 + 2 * i → n ≠ 5 + 2 * i → st g = n → W.heap[g]? = w.heap[g]? := fun n g h0 h1 h2 e => hb g (by omega) (by omega) (by omega)
  have hl : (ns.set i ((ns.getD i (0, [], [])).1, r, s)).length = ns.length := List.length_set
  exact {
    c0 := (cell_like hp _).trans h.c0, c1 := (cell_like hp _).trans h.c1, c2 := (cell_like hp _).trans h.c2, c3 := (cell_like hp _).trans h.c3, c4 := (cell_like hp _).trans h.c4
    fz := fun i hi => (froz_like hp _).trans (h.fz i hi)
    nd := by
      rw [hl]
      refine (h.nd.same fun g e => hg 2 g (by decide) (by omega) (by omega) (h.t2 g e)).congr fun j hj => ?_
      unfold ndCell ndField
      rw [nd_set _ _ _ _ hi]
      by_cases e : j / 3 = i
      · rw [if_pos e, e]
      · rw [if_neg e]
    hn := h.hn.same fun g e => hg 3 g (by decide) (by omega) (by omega) (h.t3 g e)
    rf := fun j hj => by
      rw [hl] at hj
      rw [nd_set _ _ _ _ hi]
      by_cases e : j = i
      · subst e; rw [if_pos rfl]; exact hR
      · rw [if_neg e]; exact (h.rf j hj).same fun g e' => hg (4 + 2 * j) g (by omega) (by omega) (by omega) (h.t4 j g hj e')
    rw := fun j hj => by
      rw [hl] at hj
      rw [nd_set _ _ _ _ hi]
      by_cases e : j = i
      · subst e; rw [if_pos rfl]; exact hS
      · rw [if_neg e]; exact (h.rw j hj).same fun g e' => hg (5 + 2 * j) g (by omega) (by omega) (by omega) (h.t5 j g hj e')
    t1 := h.t1, t2 := h.t2, t3 := h.t3
    t4 := fun j g hj e => h.t4 j g (by rw [hl] at hj; exact hj) e
    t5 := fun j g hj e => h.t5 j g (by rw [hl] at hj; exact hj) e
    un := fun g e => Nat.lt_of_lt_of_le (h.un g e) hs }

/-- what the walk of changes reads of node i -/
theorem ShAt.nodeAt {w : World} {ps ph : Nat} {st : Nat → Nat} {ns : List (Nat × List Nat × List Nat)} {hd : List (Option Nat)} {limit last : Nat} {C : ShC} (h : ShAt w ps ph st ns hd limit last C) {i : Nat} (hi : i < ns.length) :
    ∃ gN cN ar cr aw cw, st gN = 2 ∧ w.cell? ⟨ps, 1, none⟩ = some (.slice (some ⟨gN, 0, none⟩) ns.length cN) ∧ C.rf i = .slice ar (ns.getD i (0, [], [])).2.1.length cr ∧ C.rw i = .slice aw (ns.getD i (0, [], [])).2.2.length cw ∧ w.cell? ⟨gN, i * 3 + 1, none⟩ = some (.slice ar (ns.getD i (0, [], [])).2.1.length cr) ∧ w.cell? ⟨gN, i * 3 + 2, none⟩ = some (.slice aw (ns.getD i (0, [], [])).2.2.length cw) := by
  obtain ⟨gN, cN, hv, ho, hc⟩ := h.nd.at (by omega)
  obtain ⟨ar, cr, er⟩ := (h.rf i hi).shape
  obtain ⟨aw, cw, ew⟩ := (h.rw i hi).shape
  have c1 := h.c1
  rw [hv] at c1
  refine ⟨gN, cN, ar, cr, aw, cw, h.t2 gN ho, c1, er, ew, ?_, ?_⟩
  · rw [(hc (i * 3 + 1) (by omega)).1, ← er]
    unfold ndCell ndField
    rw [show (i * 3 + 1) / 3 = i by omega, show (i * 3 + 1) % 3 = 1 by omega]
    rfl
  · rw [(hc (i * 3 + 2) (by omega)).1, ← ew]
    unfold ndCell ndField
    rw [show (i * 3 + 2) / 3 = i by omega, show (i * 3 + 2) % 3 = 2 by omega]
    rfl
theorem Bnd.same {M M' : Hp} {n : Nat} (b : Bnd M n) (e1 : M'.objs.length = M.objs.length) (e2 : M'.coll = M.coll) (e3 : M'.resz = M.resz) (e4 : M'.slots.length = M.slots.length) (e5 : M'.roots.length ≤ M.roots.length + 1) : Bnd M' (n + 1) := by
  have := b.o1; have := b.ob; have := b.cl; have := b.rz; have := b.sl; have := b.rt; have := b.so
  exact ⟨by omega, by omega, by omega, by omega, by omega, by omega, by omega⟩
end Go.Proofs.YtidfllgaeiopjaaGreat
namespace Go.Proofs.YtidfllgaeiopjaaGreat
open Go.ChangeShapes Go.WideShapes Go.ChangeAt Go.RowKit
set_option linter.unusedVariables false
set_option linter.unusedSimpArgs false
set_option maxRecDepth 100000
set_option maxHeartbeats 1000000

/-- what the walk of changes reads -/
structure Limbs (ps ph b gN nN cN i : Nat) (dd A hh gg : Int) (vv : Nat) (vr vw : Value) (W : World) : Prop where
  c0 : W.cell? ⟨ps, 0, none⟩ = some (.pointer (some ⟨ph, 0, none⟩))
  c1 : W.cell? ⟨ps, 1, none⟩ = some (.slice (some ⟨gN, 0, none⟩) nN cN)
  m0 : W.cell? ⟨b, 0, none⟩ = some (.int .i64 dd)
  m1 : W.cell? ⟨b, 1, none⟩ = some (.int .i64 A)
  m4 : W.cell? ⟨b, 4, none⟩ = some (.int .i64 hh)
  m5 : W.cell? ⟨b, 5, none⟩ = some (.int .i64 gg)
  m6 : W.cell? ⟨b, 6, none⟩ = some (.int .u64 (vv : Nat))
  n1 : W.cell? ⟨gN, i * 3 + 1, none⟩ = some vr
  n2 : W.cell? ⟨gN, i * 3 + 2, none⟩ = some vw
theorem Limbs.on {ps ph b gN nN cN i : Nat} {dd A hh gg : Int} {vv : Nat} {vr vw : Value} {W W' : World} (h : Limbs ps ph b gN nN cN i dd A hh gg vv vr vw W) (k : Below W.heap.size W W') : Limbs ps ph b gN nN cN i dd A hh gg vv vr vw W' := by
  have e : ∀ p v, W.cell? p = some v → W'.cell? p = some v := fun p v q => (k.cell (p := p) (block_lt_of_cell q)).trans q
  exact ⟨e _ _ h.c0, e _ _ h.c1, e _ _ h.m0, e _ _ h.m1, e _ _ h.m4, e _ _ h.m5, e _ _ h.m6, e _ _ h.n1, e _ _ h.n2⟩

theorem changes_link0 {w : World} {ps ph : Nat} (A B Cc hh gg : Int) (vv : Nat) (dv : Value) {hn : Int} {gN nN cN lr lw i ref : Nat} {ar aw : Option Addr} {cr cw : Nat} (c0 : w.cell? ⟨ps, 0, none⟩ = some (.pointer (some ⟨ph, 0, none⟩)))
    (c1 : w.cell? ⟨ps, 1, none⟩ = some (.slice (some ⟨gN, 0, none⟩) nN cN)) (hi : i < nN) (hi2 : nN ≤ 1000000) (h1 : 1 ≤ i)
    (n1 : w.cell? ⟨gN, i * 3 + 1, none⟩ = some (.slice ar lr cr)) (n2 : w.cell? ⟨gN, i * 3 + 2, none⟩ = some (.slice aw lw cw)) (hlr : lr ≤ 1048576) (hlw : lw ≤ 1048576)
    (H30 : ∀ W, Below (w.heap.size + 1) (w.alloc (mvB 2 A B Cc hh gg vv dv)) W → Calls Tryz.prog 30 #[.pointer (some ⟨ps, 0, none⟩), .int .i64 hh] W fun e w' => e = .returned (.int .i64 hn) ∧ Still W w')
    (H33 : ∀ W, Below (w.heap.size + 1) (w.alloc (mvB 2 A B Cc hh gg vv dv)) W → Calls Tryz.prog 33 #[.pointer (some ⟨ps, 0, none⟩), .int .i64 hn] W fun e w' => e = .returned (.int .i64 (i : Nat)) ∧ Still W w')
    (H28 : ∀ W, Below (w.heap.size + 1) (w.alloc (mvB 2 A B Cc hh gg vv dv)) W → Calls Tryz.prog 28 #[.pointer (some ⟨ph, 0, none⟩), .int .i64 hn] W fun e w' => e = .returned (.tuple #[.int .u64 (ref : Nat), .int .i64 0]) ∧ Below W.heap.size W w')
    {hg tn : Int} (H30g : ∀ W, Below (w.heap.size + 1) (w.alloc (mvB 2 A B Cc hh gg vv dv)) W → Calls Tryz.prog 30 #[.pointer (some ⟨ps, 0, none⟩), .int .i64 gg] W fun e w' => e = .returned (.int .i64 hg) ∧ Still W w')
    (H33g : ∀ W, Below (w.heap.size + 1) (w.alloc (mvB 2 A B Cc hh gg vv dv)) W → Calls Tryz.prog 33 #[.pointer (some ⟨ps, 0, none⟩), .int .i64 hg] W fun e w' => e = .returned (.int .i64 tn) ∧ Still W w') (hno : lr = 0 ∨ tn < 0) {R : World → Prop} (HR : ∀ W, Below w.heap.size w W → R W) :
    Calls Tryz.prog 32 #[.pointer (some ⟨ps, 0, none⟩), mvV 2 A B Cc hh gg vv dv] w fun e w' => e = .returned (.bool true) ∧ R w' := by
  have hpl := block_lt_of_cell c0
  have hgl := block_lt_of_cell n1
  have hb : Below w.heap.size w (w.alloc (mvB 2 A B Cc hh gg vv dv)) := (Below.refl _ _).alloc (Nat.le_refl _) _
  have hsz : (w.alloc (mvB 2 A B Cc hh gg vv dv)).heap.size = w.heap.size + 1 := by simp
  have bx := Boxed.new w 2 A B Cc hh gg vv dv
  have L0 : Limbs ps ph w.heap.size gN nN cN i 2 A hh gg vv (.slice ar lr cr) (.slice aw lw cw) (w.alloc (mvB 2 A B Cc hh gg vv dv)) := ⟨(hb.cell (p := ⟨ps, 0, none⟩) hpl).trans c0, (hb.cell (p := ⟨ps, 1, none⟩) hpl).trans c1, bx.m0, bx.m1, bx.m4, bx.m5, bx.m6, (hb.cell (p := ⟨gN, i * 3 + 1, none⟩) hgl).trans n1, (hb.cell (p := ⟨gN, i * 3 + 2, none⟩) hgl).trans n2⟩
  have hL : ∀ W, Below (w.heap.size + 1) (w.alloc (mvB 2 A B Cc hh gg vv dv)) W → Limbs ps ph w.heap.size gN nN cN i 2 A hh gg vv (.slice ar lr cr) (.slice aw lw cw) W := fun W k => L0.on (by rw [hsz]; exact k)
  have hOn : ∀ W w', Below (w.heap.size + 1) (w.alloc (mvB 2 A B Cc hh gg vv dv)) W → Below W.heap.size W w' → Below (w.heap.size + 1) (w.alloc (mvB 2 A B Cc hh gg vv dv)) w' := fun W w' k q => k.trans (q.mono (by have := k.size; rw [hsz] at this; exact this))
  have H30' : Hid (∀ W, Hid (Below (w.heap.size + 1) (w.alloc (mvB 2 A B Cc hh gg vv dv)) W) → Calls Tryz.prog 30 #[.pointer (some ⟨ps, 0, none⟩), .int .i64 hh] W fun e w' => e = .returned (.int .i64 hn) ∧ Hid (Below (w.heap.size + 1) (w.alloc (mvB 2 A B Cc hh gg vv dv)) w') ∧ Limbs ps ph w.heap.size gN nN cN i 2 A hh gg vv (.slice ar lr cr) (.slice aw lw cw) w') := hide (fun W hW => (H30 W (unhide hW)).mono fun e w' ⟨q1, q2⟩ => ⟨q1, hide (hOn W w' (unhide hW) q2.below), hL w' (hOn W w' (unhide hW) q2.below)⟩)
  have H33' : Hid (∀ W, Hid (Below (w.heap.size + 1) (w.alloc (mvB 2 A B Cc hh gg vv dv)) W) → Calls Tryz.prog 33 #[.pointer (some ⟨ps, 0, none⟩), .int .i64 hn] W fun e w' => e = .returned (.int .i64 (i : Nat)) ∧ Hid (Below (w.heap.size + 1) (w.alloc (mvB 2 A B Cc hh gg vv dv)) w') ∧ Limbs ps ph w.heap.size gN nN cN i 2 A hh gg vv (.slice ar lr cr) (.slice aw lw cw) w') := hide (fun W hW => (H33 W (unhide hW)).mono fun e w' ⟨q1, q2⟩ => ⟨q1, hide (hOn W w' (unhide hW) q2.below), hL w' (hOn W w' (unhide hW) q2.below)⟩)
  have H28' : Hid (∀ W, Hid (Below (w.heap.size + 1) (w.alloc (mvB 2 A B Cc hh gg vv dv)) W) → Calls Tryz.prog 28 #[.pointer (some ⟨ph, 0, none⟩), .int .i64 hn] W fun e w' => e = .returned (.tuple #[.int .u64 (ref : Nat), .int .i64 0]) ∧ Hid (Below (w.heap.size + 1) (w.alloc (mvB 2 A B Cc hh gg vv dv)) w') ∧ Limbs ps ph w.heap.size gN nN cN i 2 A hh gg vv (.slice ar lr cr) (.slice aw lw cw) w') := hide (fun W hW => (H28 W (unhide hW)).mono fun e w' ⟨q1, q2⟩ => ⟨q1, hide (hOn W w' (unhide hW) q2), hL w' (hOn W w' (unhide hW) q2)⟩)
  have H30g' : Hid (∀ W, Hid (Below (w.heap.size + 1) (w.alloc (mvB 2 A B Cc hh gg vv dv)) W) → Calls Tryz.prog 30 #[.pointer (some ⟨ps, 0, none⟩), .int .i64 gg] W fun e w' => e = .returned (.int .i64 hg) ∧ Hid (Below (w.heap.size + 1) (w.alloc (mvB 2 A B Cc hh gg vv dv)) w') ∧ Limbs ps ph w.heap.size gN nN cN i 2 A hh gg vv (.slice ar lr cr) (.slice aw lw cw) w') := hide (fun W hW => (H30g W (unhide hW)).mono fun e w' ⟨q1, q2⟩ => ⟨q1, hide (hOn W w' (unhide hW) q2.below), hL w' (hOn W w' (unhide hW) q2.below)⟩)
  have H33g' : Hid (∀ W, Hid (Below (w.heap.size + 1) (w.alloc (mvB 2 A B Cc hh gg vv dv)) W) → Calls Tryz.prog 33 #[.pointer (some ⟨ps, 0, none⟩), .int .i64 hg] W fun e w' => e = .returned (.int .i64 tn) ∧ Hid (Below (w.heap.size + 1) (w.alloc (mvB 2 A B Cc hh gg vv dv)) w') ∧ Limbs ps ph w.heap.size gN nN cN i 2 A hh gg vv (.slice ar lr cr) (.slice aw lw cw) w') := hide (fun W hW => (H33g W (unhide hW)).mono fun e w' ⟨q1, q2⟩ => ⟨q1, hide (hOn W w' (unhide hW) q2.below), hL w' (hOn W w' (unhide hW) q2.below)⟩)
  have HR' : Hid (∀ W, Hid (Below (w.heap.size + 1) (w.alloc (mvB 2 A B Cc hh gg vv dv)) W) → R W) := hide (fun W k => HR W (hb.trans ((unhide k).mono (by omega))))
  have hO0 : Hid (Below (w.heap.size + 1) (w.alloc (mvB 2 A B Cc hh gg vv dv)) (w.alloc (mvB 2 A B Cc hh gg vv dv))) := hide (Below.refl _ _)
  obtain ⟨x0, x1, y0, y1, y4, y5, y6, z1, z2⟩ := L0
  have d1 : decide ((i : Int) < 1) = false := decide_eq_false (by omega)
  have i1 : (0 : Int) ≤ (i : Nat) := by omega
  have i2 : (i : Int) < (nN : Nat) := by omega
  clear H30 H33 H28 hOn hL hb hsz bx c0 c1 n1 n2 H30g H33g HR
  unfold mvV
  unfold mvB at H30' H33' H28' hO0 x0 x1 y0 y1 y4 y5 y6 z1 z2 H30g' H33g' HR'
  generalize hW : World.alloc w _ = W0 at *
  generalize hB : w.heap.size = b at *
  go_enter Tryz.func32, Tryz.ntmps32
  go_wp2_with fail
  (try rw [hW]); (try rw [hB])
  refine (unhide H30' _ hO0).mono ?_
  rintro e w1 ⟨rfl, hO1, ⟨x0, x1, y0, y1, y4, y5, y6, z1, z2⟩⟩
  go_wp2_with fail
  refine (unhide H33' _ hO1).mono ?_
  rintro e w2 ⟨rfl, hO2, ⟨x0, x1, y0, y1, y4, y5, y6, z1, z2⟩⟩
  go_wp2_with fail
  go_region_held3 (fun w' => w'.cell? ⟨ps, 0, none⟩ = some (.pointer (some ⟨ph, 0, none⟩)) ∧ w'.cell? ⟨b, 4, none⟩ = some (.int .i64 hh)) (go_keep) (first | (go_at_call 30; refine (unhide H30' _ (hide (unhide hO2).drew)).mono ?_; rintro e w3 ⟨rfl, hO3, ⟨x0, x1, y0, y1, y4, y5, y6, z1, z2⟩⟩) | (go_at_call 28; refine (unhide H28' _ hO3).mono ?_; rintro e w4 ⟨rfl, hO4, ⟨x0, x1, y0, y1, y4, y5, y6, z1, z2⟩⟩))
  go_wp2_with fail
  go_region_held3 (fun w' => w'.cell? ⟨ps, 1, none⟩ = some (.slice (some ⟨gN, 0, none⟩) nN cN) ∧ w'.cell? ⟨gN, i * 3 + 1, none⟩ = some (.slice ar lr cr) ∧ w'.cell? ⟨gN, i * 3 + 2, none⟩ = some (.slice aw lw cw)) (go_keep) (fail)
  go_wp2_with fail
  refine (unhide H30g' _ (hide (unhide hO4).drew)).mono ?_
  rintro e w5 ⟨rfl, hO5, ⟨x0, x1, y0, y1, y4, y5, y6, z1, z2⟩⟩
  go_wp2_with fail
  refine (unhide H33g' _ hO5).mono ?_
  rintro e w6 ⟨rfl, hO6, ⟨x0, x1, y0, y1, y4, y5, y6, z1, z2⟩⟩
  by_cases h0 : lr = 0
  · subst h0
    go_wp2_with fail
    go_ret
    exact ⟨rfl, unhide HR' _ hO6⟩
  · have d2 : decide ((lr : Int) = 0) = false := decide_eq_false (by omega)
    have d3 : decide (tn < 0) = true := decide_eq_true (by omega)
    go_wp2_with fail
    go_ret
    exact ⟨rfl, unhide HR' _ hO6⟩
end Go.Proofs.YtidfllgaeiopjaaGreat
namespace Go.Proofs.YtidfllgaeiopjaaGreat
open Go.ChangeShapes Go.WideShapes Go.ChangeAt Go.RowKit
set_option linter.unusedVariables false
set_option linter.unusedSimpArgs false
set_option maxRecDepth 100000
set_option maxHeartbeats 1000000

/-- what writes reads -/
structure LimbW (ps ph b gN nN cN i : Nat) (A : Int) (dv vw : Value) (W : World) : Prop where
  c0 : W.cell? ⟨ps, 0, none⟩ = some (.pointer (some ⟨ph, 0, none⟩))
  c1 : W.cell? ⟨ps, 1, none⟩ = some (.slice (some ⟨gN, 0, none⟩) nN cN)
  m1 : W.cell? ⟨b, 1, none⟩ = some (.int .i64 A)
  m7 : W.cell? ⟨b, 7, none⟩ = some dv
  n2 : W.cell? ⟨gN, i * 3 + 2, none⟩ = some vw
theorem LimbW.like {ps ph b gN nN cN i : Nat} {A : Int} {dv vw : Value} {W W' : World} (h : LimbW ps ph b gN nN cN i A dv vw W) (e1 : W'.heap[ps]? = W.heap[ps]?) (e2 : W'.heap[gN]? = W.heap[gN]?) (e3 : W'.heap[b]? = W.heap[b]?) : LimbW ps ph b gN nN cN i A dv vw W' := by
  refine ⟨?_, ?_, ?_, ?_, ?_⟩
  · rw [← h.c0]; simp only [World.cell?, e1]
  · rw [← h.c1]; simp only [World.cell?, e1]
  · rw [← h.m1]; simp only [World.cell?, e3]
  · rw [← h.m7]; simp only [World.cell?, e3]
  · rw [← h.n2]; simp only [World.cell?, e2]

theorem writes_no {w : World} {ps ph : Nat} (dd A B Cc hh gg : Int) (vv ref : Nat) (da : Option Addr) (dl dc : Nat) {gN nN cN lw i : Nat} {aw : Option Addr} {cw : Nat} {R G : World → Prop} (c0 : w.cell? ⟨ps, 0, none⟩ = some (.pointer (some ⟨ph, 0, none⟩)))
    (c1 : w.cell? ⟨ps, 1, none⟩ = some (.slice (some ⟨gN, 0, none⟩) nN cN)) (hi : i < nN) (hi2 : nN ≤ 1000000) (hdl : dl ≤ 140737488355328)
    (n2 : w.cell? ⟨gN, i * 3 + 2, none⟩ = some (.slice aw lw cw)) (hlw : lw ≤ 1048576)
    (H94 : ∀ W, Below (w.heap.size + 1) (w.alloc (mvB dd A B Cc hh gg vv (.slice da dl dc))) W → Calls Tryz.prog 94 #[.slice da dl dc] W fun e w' => ∃ a' cap', e = .returned (.slice a' dl cap') ∧ Below W.heap.size W w' ∧
      Calls Tryz.prog 93 #[.pointer (some ⟨ph, 0, none⟩), .int .u64 (ref : Nat), .int .i64 A, .slice a' dl cap'] w' fun e w'' => e = .returned (.int .i64 33) ∧ w''.heap[ps]? = w'.heap[ps]? ∧ w''.heap[gN]? = w'.heap[gN]? ∧ w''.heap[w.heap.size]? = w'.heap[w.heap.size]? ∧ G w'')
    (hno : A < 0 ∨ 8 * (lw : Int) < A ∨ 8 * (lw : Int) - A < (dl : Nat)) (HR : ∀ w5, G w5 → R w5) :
    Calls Tryz.prog 60 #[.pointer (some ⟨ps, 0, none⟩), .int .u64 (ref : Nat), .int .i64 (i : Nat), mvV dd A B Cc hh gg vv (.slice da dl dc)] w fun e w' => e = .returned (.bool true) ∧ R w' := by
  have hpl : ps < w.heap.size := block_lt_of_cell c0
  have hgl : gN < w.heap.size := block_lt_of_cell n2
  have hb : Below w.heap.size w (w.alloc (mvB dd A B Cc hh gg vv (.slice da dl dc))) := (Below.refl _ _).alloc (Nat.le_refl _) _
  have hsz : (w.alloc (mvB dd A B Cc hh gg vv (.slice da dl dc))).heap.size = w.heap.size + 1 := by simp
  have bx := Boxed.new w dd A B Cc hh gg vv (.slice da dl dc)
  have L0 : LimbW ps ph w.heap.size gN nN cN i A (.slice da dl dc) (.slice aw lw cw) (w.alloc (mvB dd A B Cc hh gg vv (.slice da dl dc))) := ⟨(hb.cell (p := ⟨ps, 0, none⟩) hpl).trans c0, (hb.cell (p := ⟨ps, 1, none⟩) hpl).trans c1, bx.m1, bx.m7, (hb.cell (p := ⟨gN, i * 3 + 2, none⟩) hgl).trans n2⟩
  have H94' : Hid (∀ W, Hid (Below (w.heap.size + 1) (w.alloc (mvB dd A B Cc hh gg vv (.slice da dl dc))) W) → Calls Tryz.prog 94 #[.slice da dl dc] W fun e w' => ∃ a' cap', e = .returned (.slice a' dl cap') ∧ LimbW ps ph w.heap.size gN nN cN i A (.slice da dl dc) (.slice aw lw cw) w' ∧
      Hid (Calls Tryz.prog 93 #[.pointer (some ⟨ph, 0, none⟩), .int .u64 (ref : Nat), .int .i64 A, .slice a' dl cap'] w' fun e w'' => e = .returned (.int .i64 33) ∧ LimbW ps ph w.heap.size gN nN cN i A (.slice da dl dc) (.slice aw lw cw) w'' ∧ Hid (G w''))) := hide (fun W hW => (H94 W (unhide hW)).mono fun e w' ⟨a', cap', q1, q2, q3⟩ => by
    have kW := unhide hW
    have k2 := kW.trans (q2.mono (by have := kW.size; rw [hsz] at this; exact this))
    have hl : LimbW ps ph w.heap.size gN nN cN i A (.slice da dl dc) (.slice aw lw cw) w' := L0.like (k2.block ps (by omega)) (k2.block gN (by omega)) (k2.block w.heap.size (by omega))
    exact ⟨a', cap', q1, hl, hide (q3.mono fun e w'' ⟨z1, z2, z3, z4, z5⟩ => ⟨z1, hl.like z2 z3 z4, hide z5⟩)⟩)
  have HR' := hide HR
  have hO0 : Hid (Below (w.heap.size + 1) (w.alloc (mvB dd A B Cc hh gg vv (.slice da dl dc))) (w.alloc (mvB dd A B Cc hh gg vv (.slice da dl dc)))) := hide (Below.refl _ _)
  obtain ⟨x0, x1, y1, y7, z2⟩ := L0
  have i1 : (0 : Int) ≤ (i : Nat) := by omega
  have i2 : (i : Int) < (nN : Nat) := by omega
  have mu : IntKind.i64.wrap (8 * (lw : Int)) = 8 * (lw : Int) := wrap_small _ (by omega) (by omega)
  clear H94 hb hsz bx c0 c1 n2 HR
  unfold mvV
  unfold mvB at H94' hO0 x0 x1 y1 y7 z2
  generalize hW : World.alloc w _ = W0 at *
  generalize hB : w.heap.size = b at *
  go_enter Tryz.func60, Tryz.ntmps60
  go_wp2_with fail
  (try rw [hW]); (try rw [hB])
  go_region_held3 (fun w' => w'.cell? ⟨ps, 0, none⟩ = some (.pointer (some ⟨ph, 0, none⟩)) ∧ w'.cell? ⟨b, 1, none⟩ = some (.int .i64 A) ∧ w'.cell? ⟨b, 7, none⟩ = some (.slice da dl dc)) (go_keep) (first | (go_at_call 94; refine (unhide H94' _ (hide (unhide hO0).drew)).mono ?_; rintro e w3 ⟨a', cap', rfl, ⟨x0, x1, y1, y7, z2⟩, H93⟩) | (go_at_call 93; refine (unhide H93).mono ?_; rintro e w4 ⟨rfl, ⟨x0, x1, y1, y7, z2⟩, hR⟩))
  by_cases h1 : A < 0
  · have d1 : decide (A < 0) = true := decide_eq_true h1
    go_wp2_with fail
    go_ret
    exact ⟨rfl, unhide HR' _ (unhide hR)⟩
  have d1 : decide (A < 0) = false := decide_eq_false h1
  by_cases h2 : 8 * (lw : Int) < A
  · have d2 : decide (8 * (lw : Int) < A) = true := decide_eq_true h2
    go_wp2_with fail
    go_ret
    exact ⟨rfl, unhide HR' _ (unhide hR)⟩
  have d2 : decide (8 * (lw : Int) < A) = false := decide_eq_false h2
  have h3 : 8 * (lw : Int) - A < (dl : Nat) := by omega
  have d3 : decide (8 * (lw : Int) - A < (dl : Nat)) = true := decide_eq_true h3
  have su : IntKind.i64.wrap (8 * (lw : Int) - A) = 8 * (lw : Int) - A := wrap_small _ (by omega) (by omega)
  go_wp2_with fail
  go_ret
  exact ⟨rfl, unhide HR' _ (unhide hR)⟩
end Go.Proofs.YtidfllgaeiopjaaGreat
namespace Go.Proofs.YtidfllgaeiopjaaGreat
open Go.ChangeShapes Go.WideShapes Go.ChangeAt Go.RowKit
set_option linter.unusedVariables false
set_option linter.unusedSimpArgs false
set_option maxRecDepth 100000
set_option maxHeartbeats 1000000


theorem writes_zero {w : World} {ps ph : Nat} (dd A B Cc hh gg : Int) (vv ref : Nat) (da : Option Addr) (dl dc : Nat) {gN nN cN lw i : Nat} {aw : Option Addr} {cw : Nat} {R G : World → Prop} (c0 : w.cell? ⟨ps, 0, none⟩ = some (.pointer (some ⟨ph, 0, none⟩)))
    (c1 : w.cell? ⟨ps, 1, none⟩ = some (.slice (some ⟨gN, 0, none⟩) nN cN)) (hi : i < nN) (hi2 : nN ≤ 1000000) (hdl : dl ≤ 140737488355328)
    (n2 : w.cell? ⟨gN, i * 3 + 2, none⟩ = some (.slice aw lw cw)) (hlw : lw ≤ 1048576)
    (H94 : ∀ W, Below (w.heap.size + 1) (w.alloc (mvB dd A B Cc hh gg vv (.slice da dl dc))) W → Calls Tryz.prog 94 #[.slice da dl dc] W fun e w' => ∃ a' cap', e = .returned (.slice a' dl cap') ∧ Below W.heap.size W w' ∧
      Calls Tryz.prog 93 #[.pointer (some ⟨ph, 0, none⟩), .int .u64 (ref : Nat), .int .i64 A, .slice a' dl cap'] w' fun e w'' => e = .returned (.int .i64 0) ∧ w''.heap[ps]? = w'.heap[ps]? ∧ w''.heap[gN]? = w'.heap[gN]? ∧ w''.heap[w.heap.size]? = w'.heap[w.heap.size]? ∧ G w'')
    {f : Nat} (hA : A = (f : Nat)) (hsp : f ≤ 8 * lw) (hdl0 : dl = 0) (HR : ∀ w5, G w5 → R w5) :
    Calls Tryz.prog 60 #[.pointer (some ⟨ps, 0, none⟩), .int .u64 (ref : Nat), .int .i64 (i : Nat), mvV dd A B Cc hh gg vv (.slice da dl dc)] w fun e w' => e = .returned (.bool true) ∧ R w' := by
  have hpl : ps < w.heap.size := block_lt_of_cell c0
  have hgl : gN < w.heap.size := block_lt_of_cell n2
  have hb : Below w.heap.size w (w.alloc (mvB dd A B Cc hh gg vv (.slice da dl dc))) := (Below.refl _ _).alloc (Nat.le_refl _) _
  have hsz : (w.alloc (mvB dd A B Cc hh gg vv (.slice da dl dc))).heap.size = w.heap.size + 1 := by simp
  have bx := Boxed.new w dd A B Cc hh gg vv (.slice da dl dc)
  have L0 : LimbW ps ph w.heap.size gN nN cN i A (.slice da dl dc) (.slice aw lw cw) (w.alloc (mvB dd A B Cc hh gg vv (.slice da dl dc))) := ⟨(hb.cell (p := ⟨ps, 0, none⟩) hpl).trans c0, (hb.cell (p := ⟨ps, 1, none⟩) hpl).trans c1, bx.m1, bx.m7, (hb.cell (p := ⟨gN, i * 3 + 2, none⟩) hgl).trans n2⟩
  have H94' : Hid (∀ W, Hid (Below (w.heap.size + 1) (w.alloc (mvB dd A B Cc hh gg vv (.slice da dl dc))) W) → Calls Tryz.prog 94 #[.slice da dl dc] W fun e w' => ∃ a' cap', e = .returned (.slice a' dl cap') ∧ LimbW ps ph w.heap.size gN nN cN i A (.slice da dl dc) (.slice aw lw cw) w' ∧
      Hid (Calls Tryz.prog 93 #[.pointer (some ⟨ph, 0, none⟩), .int .u64 (ref : Nat), .int .i64 A, .slice a' dl cap'] w' fun e w'' => e = .returned (.int .i64 0) ∧ LimbW ps ph w.heap.size gN nN cN i A (.slice da dl dc) (.slice aw lw cw) w'' ∧ Hid (G w''))) := hide (fun W hW => (H94 W (unhide hW)).mono fun e w' ⟨a', cap', q1, q2, q3⟩ => by
    have kW := unhide hW
    have k2 := kW.trans (q2.mono (by have := kW.size; rw [hsz] at this; exact this))
    have hl : LimbW ps ph w.heap.size gN nN cN i A (.slice da dl dc) (.slice aw lw cw) w' := L0.like (k2.block ps (by omega)) (k2.block gN (by omega)) (k2.block w.heap.size (by omega))
    exact ⟨a', cap', q1, hl, hide (q3.mono fun e w'' ⟨z1, z2, z3, z4, z5⟩ => ⟨z1, hl.like z2 z3 z4, hide z5⟩)⟩)
  have HR' := hide HR
  have HA := hide hA
  have HD0 := hide hdl0
  have hO0 : Hid (Below (w.heap.size + 1) (w.alloc (mvB dd A B Cc hh gg vv (.slice da dl dc))) (w.alloc (mvB dd A B Cc hh gg vv (.slice da dl dc)))) := hide (Below.refl _ _)
  obtain ⟨x0, x1, y1, y7, z2⟩ := L0
  have i1 : (0 : Int) ≤ (i : Nat) := by omega
  have i2 : (i : Int) < (nN : Nat) := by omega
  have mu : IntKind.i64.wrap (8 * (lw : Int)) = 8 * (lw : Int) := wrap_small _ (by omega) (by omega)
  clear H94 hb hsz bx c0 c1 n2 HR hA hdl0
  unfold mvV
  unfold mvB at H94' hO0 x0 x1 y1 y7 z2
  generalize hW : World.alloc w _ = W0 at *
  generalize hB : w.heap.size = b at *
  go_enter Tryz.func60, Tryz.ntmps60
  go_wp2_with fail
  (try rw [hW]); (try rw [hB])
  go_region_held3 (fun w' => w'.cell? ⟨ps, 0, none⟩ = some (.pointer (some ⟨ph, 0, none⟩)) ∧ w'.cell? ⟨b, 1, none⟩ = some (.int .i64 A) ∧ w'.cell? ⟨b, 7, none⟩ = some (.slice da dl dc)) (go_keep) (first | (go_at_call 94; refine (unhide H94' _ (hide (unhide hO0).drew)).mono ?_; rintro e w3 ⟨a', cap', rfl, ⟨x0, x1, y1, y7, z2⟩, H93⟩) | (go_at_call 93; refine (unhide H93).mono ?_; rintro e w4 ⟨rfl, ⟨x0, x1, y1, y7, z2⟩, hR⟩))
  obtain rfl := unhide HA
  obtain rfl := unhide HD0
  have d1 : decide ((f : Int) < 0) = false := decide_eq_false (by omega)
  have d2 : decide (8 * (lw : Int) < (f : Nat)) = false := decide_eq_false (by omega)
  have d3 : decide (8 * (lw : Int) - (f : Nat) < ((0 : Nat) : Int)) = false := decide_eq_false (by omega)
  have d3' : decide (8 * (lw : Int) - (f : Nat) < 0) = false := decide_eq_false (by omega)
  have su : IntKind.i64.wrap (8 * (lw : Int) - (f : Nat)) = 8 * (lw : Int) - (f : Nat) := wrap_small _ (by omega) (by omega)
  go_wp2_with fail
  go_loopw [11] (fun kv wr => kv = .int .i64 0 ∧ wr = w4) (fun _ _ => 0)
  case atStart => exact ⟨rfl, rfl⟩
  case round =>
    obtain ⟨rfl, rfl⟩ := hrel
    go_wp2
    go_ret
    exact ⟨rfl, unhide HR' _ (unhide hR)⟩
end Go.Proofs.YtidfllgaeiopjaaGreat
namespace Go.Proofs.YtidfllgaeiopjaaGreat
open Go.ChangeShapes Go.WideShapes Go.ChangeAt Go.RowKit
set_option linter.unusedVariables false
set_option linter.unusedSimpArgs false
set_option maxRecDepth 100000
set_option maxHeartbeats 1000000


/-- the words of the block ga have become L; all else is as it was in w5 -/
structure WrI (ga lw : Nat) (L : List Nat) (w5 W : World) : Prop where
  os : W.os = w5.os
  tape : W.tape = w5.tape
  output : W.output = w5.output
  size : W.heap.size = w5.heap.size
  blk : ∀ g, g ≠ ga → W.heap[g]? = w5.heap[g]?
  cel : ∀ j, j < lw → W.cell? ⟨ga, j, none⟩ = some (.int .u64 (L.getD j 0 : Nat)) ∧ W.frozen? ⟨ga, j, none⟩ = false
  shp : ∀ cur t c2, w5.heap[ga]? = some (.cells cur t c2) → ∃ cur', W.heap[ga]? = some (.cells cur' t c2) ∧ cur'.size = cur.size
theorem WrI.still {ga lw : Nat} {L : List Nat} {w5 W W' : World} (h : WrI ga lw L w5 W) (k : Still W W') : WrI ga lw L w5 W' :=
  ⟨k.os.trans h.os, k.tape.trans h.tape, k.output.trans h.output, by rw [k.heap]; exact h.size, fun g e => by rw [k.heap]; exact h.blk g e, fun j hj => ⟨(k.cell _).trans (h.cel j hj).1, by rw [← (h.cel j hj).2]; simp only [World.frozen?, k.heap]⟩, fun cur t c2 e => by rw [k.heap]; exact h.shp cur t c2 e⟩
theorem WrI.set {ga lw : Nat} {L : List Nat} {w5 W : World} (h : WrI ga lw L w5 W) (hL : L.length = lw) (q x : Nat) (hq : q < lw) : WrI ga lw (L.set q x) w5 (W.setCell ⟨ga, q, none⟩ (.int .u64 (x : Nat))) := by
  refine ⟨h.os, h.tape, h.output, by rw [World.size_setCell]; exact h.size, fun g e => by rw [setCell_else _ _ _ _ _ e]; exact h.blk g e, fun j hj => ?_, fun cur t c2 e => ?_⟩
  · rw [World.frozen?_setCell, getD_set0 _ _ _ _ (by omega)]
    refine ⟨?_, (h.cel j hj).2⟩
    by_cases e : j = q
    · subst e
      rw [if_pos rfl]
      exact World.cell?_setCell_same' _ _ _ (by rw [(h.cel j hj).1]; rfl)
    · rw [if_neg e, World.cell?_setCell_other _ _ _ _ (by simp [e])]
      exact (h.cel j hj).1
  · obtain ⟨cur', e1, e2⟩ := h.shp cur t c2 e
    refine ⟨cur'.setIfInBounds q (.int .u64 (x : Nat)), ?_, by simp [e2]⟩
    simp [World.setCell, Array.getElem?_modify, e1]
theorem upd_bits (o t c : Nat) (ho : o < 18446744073709551616) (ht : t < 8) (hc : c < 256) : bits BinOp.or IntKind.u64 (bits BinOp.andNot IntKind.u64 (o : Int) (IntKind.u64.wrap (255 * 2 ^ (8 * t)))) (IntKind.u64.wrap ((c : Int) * 2 ^ (8 * t))) = (updN o t c : Nat) := by
  have h2 : 2 ^ (8 * t) ≤ 2 ^ 56 := Nat.pow_le_pow_right (by decide) (by omega)
  have h3 : c * 2 ^ (8 * t) ≤ 255 * 2 ^ 56 := Nat.mul_le_mul (by omega) h2
  have w1 : IntKind.u64.wrap (255 * 2 ^ (8 * t)) = ((255 * 2 ^ (8 * t) : Nat) : Int) := by
    rw [IntKind.wrap_u64, show (255 : Int) * 2 ^ (8 * t) = ((255 * 2 ^ (8 * t) : Nat) : Int) by simp]
    omega
  have w2 : IntKind.u64.wrap ((c : Int) * 2 ^ (8 * t)) = ((c * 2 ^ (8 * t) : Nat) : Int) := by
    rw [IntKind.wrap_u64, show (c : Int) * 2 ^ (8 * t) = ((c * 2 ^ (8 * t) : Nat) : Int) by simp]
    omega
  rw [w1, w2]
  have e1 : bits BinOp.andNot IntKind.u64 (o : Int) ((255 * 2 ^ (8 * t) : Nat) : Int) = ((o &&& (18446744073709551615 - 255 * 2 ^ (8 * t)) : Nat) : Int) := u64_andNot_nat o (255 * 2 ^ (8 * t)) ho (by omega)
  rw [e1]
  have h4 : o &&& (18446744073709551615 - 255 * 2 ^ (8 * t)) ≤ o := Nat.and_le_left
  exact u64_or_nat _ _ (by omega) (by omega)

theorem writes_yes {w : World} {ps ph : Nat} (dd A B Cc hh gg : Int) (vv ref : Nat) (da : Option Addr) (dl dc : Nat) {gN nN cN lw i : Nat} {aw : Option Addr} {cw : Nat} {R G : World → Prop} (c0 : w.cell? ⟨ps, 0, none⟩ = some (.pointer (some ⟨ph, 0, none⟩)))
    (c1 : w.cell? ⟨ps, 1, none⟩ = some (.slice (some ⟨gN, 0, none⟩) nN cN)) (hi : i < nN) (hi2 : nN ≤ 1000000) (hdl : dl ≤ 140737488355328)
    (n2 : w.cell? ⟨gN, i * 3 + 2, none⟩ = some (.slice aw lw cw)) (hlw : lw ≤ 1048576)
    (H94 : ∀ W, Below (w.heap.size + 1) (w.alloc (mvB dd A B Cc hh gg vv (.slice da dl dc))) W → Calls Tryz.prog 94 #[.slice da dl dc] W fun e w' => ∃ a' cap', e = .returned (.slice a' dl cap') ∧ Below W.heap.size W w' ∧
      Calls Tryz.prog 93 #[.pointer (some ⟨ph, 0, none⟩), .int .u64 (ref : Nat), .int .i64 A, .slice a' dl cap'] w' fun e w'' => e = .returned (.int .i64 0) ∧ w''.heap[ps]? = w'.heap[ps]? ∧ w''.heap[gN]? = w'.heap[gN]? ∧ w''.heap[w.heap.size]? = w'.heap[w.heap.size]? ∧ G w'')
    {f : Nat} (hA : A = (f : Nat)) (hsp : f + dl ≤ 8 * lw) (l d : List Nat) (hl : l.length = lw) (hw : W64 l) (hd : d.length = dl) (hds : ∀ i, i < d.length → d.getD i 0 < 256) (ga db doff : Nat) (haw : aw = some ⟨ga, 0, none⟩) (hda : 0 < dl → da = some ⟨db, doff, none⟩)
    (np : ga ≠ ps) (nn : ga ≠ gN) (nb : ga ≠ w.heap.size) (nd : 0 < dl → ga ≠ db)
    (HG : ∀ w5, G w5 → (∀ j, j < lw → w5.cell? ⟨ga, j, none⟩ = some (.int .u64 (l.getD j 0 : Nat)) ∧ w5.frozen? ⟨ga, j, none⟩ = false) ∧ ∀ k, k < dl → w5.cell? ⟨db, doff + k, none⟩ = some (.int .u8 (d.getD k 0 : Nat))) (HR : ∀ w5, G w5 → ∀ W, WrI ga lw (layN l f d dl) w5 W → R W) :
    Calls Tryz.prog 60 #[.pointer (some ⟨ps, 0, none⟩), .int .u64 (ref : Nat), .int .i64 (i : Nat), mvV dd A B Cc hh gg vv (.slice da dl dc)] w fun e w' => e = .returned (.bool true) ∧ R w' := by
  have hpl : ps < w.heap.size := block_lt_of_cell c0
  have hgl : gN < w.heap.size := block_lt_of_cell n2
  have hb : Below w.heap.size w (w.alloc (mvB dd A B Cc hh gg vv (.slice da dl dc))) := (Below.refl _ _).alloc (Nat.le_refl _) _
  have hsz : (w.alloc (mvB dd A B Cc hh gg vv (.slice da dl dc))).heap.size = w.heap.size + 1 := by simp
  have bx := Boxed.new w dd A B Cc hh gg vv (.slice da dl dc)
  have L0 : LimbW ps ph w.heap.size gN nN cN i A (.slice da dl dc) (.slice aw lw cw) (w.alloc (mvB dd A B Cc hh gg vv (.slice da dl dc))) := ⟨(hb.cell (p := ⟨ps, 0, none⟩) hpl).trans c0, (hb.cell (p := ⟨ps, 1, none⟩) hpl).trans c1, bx.m1, bx.m7, (hb.cell (p := ⟨gN, i * 3 + 2, none⟩) hgl).trans n2⟩
  have H94' : Hid (∀ W, Hid (Below (w.heap.size + 1) (w.alloc (mvB dd A B Cc hh gg vv (.slice da dl dc))) W) → Calls Tryz.prog 94 #[.slice da dl dc] W fun e w' => ∃ a' cap', e = .returned (.slice a' dl cap') ∧ LimbW ps ph w.heap.size gN nN cN i A (.slice da dl dc) (.slice aw lw cw) w' ∧
      Hid (Calls Tryz.prog 93 #[.pointer (some ⟨ph, 0, none⟩), .int .u64 (ref : Nat), .int .i64 A, .slice a' dl cap'] w' fun e w'' => e = .returned (.int .i64 0) ∧ LimbW ps ph w.heap.size gN nN cN i A (.slice da dl dc) (.slice aw lw cw) w'' ∧ Hid (G w''))) := hide (fun W hW => (H94 W (unhide hW)).mono fun e w' ⟨a', cap', q1, q2, q3⟩ => by
    have kW := unhide hW
    have k2 := kW.trans (q2.mono (by have := kW.size; rw [hsz] at this; exact this))
    have hl : LimbW ps ph w.heap.size gN nN cN i A (.slice da dl dc) (.slice aw lw cw) w' := L0.like (k2.block ps (by omega)) (k2.block gN (by omega)) (k2.block w.heap.size (by omega))
    exact ⟨a', cap', q1, hl, hide (q3.mono fun e w'' ⟨z1, z2, z3, z4, z5⟩ => ⟨z1, hl.like z2 z3 z4, hide z5⟩)⟩)
  have HR' := hide HR
  have HG' := hide HG
  have HA := hide hA
  have HLL := hide hl
  have HDD := hide hd
  have HDA := hide hda
  have HND := hide nd
  have HW6 := hide hw
  have HDS := hide hds
  have hO0 : Hid (Below (w.heap.size + 1) (w.alloc (mvB dd A B Cc hh gg vv (.slice da dl dc))) (w.alloc (mvB dd A B Cc hh gg vv (.slice da dl dc)))) := hide (Below.refl _ _)
  obtain ⟨x0, x1, y1, y7, z2⟩ := L0
  have i1 : (0 : Int) ≤ (i : Nat) := by omega
  have i2 : (i : Int) < (nN : Nat) := by omega
  have mu : IntKind.i64.wrap (8 * (lw : Int)) = 8 * (lw : Int) := wrap_small _ (by omega) (by omega)
  clear H94 hb hsz bx c0 c1 n2 HR HG hA hl hd hda nd hw hds
  unfold mvV
  unfold mvB at H94' hO0 x0 x1 y1 y7 z2
  generalize hW : World.alloc w _ = W0 at *
  generalize hB : w.heap.size = b at *
  go_enter Tryz.func60, Tryz.ntmps60
  go_wp2_with fail
  (try rw [hW]); (try rw [hB])
  go_region_held3 (fun w' => w'.cell? ⟨ps, 0, none⟩ = some (.pointer (some ⟨ph, 0, none⟩)) ∧ w'.cell? ⟨b, 1, none⟩ = some (.int .i64 A) ∧ w'.cell? ⟨b, 7, none⟩ = some (.slice da dl dc)) (go_keep) (first | (go_at_call 94; refine (unhide H94' _ (hide (unhide hO0).drew)).mono ?_; rintro e w3 ⟨a', cap', rfl, ⟨x0, x1, y1, y7, z2⟩, H93⟩) | (go_at_call 93; refine (unhide H93).mono ?_; rintro e w4 ⟨rfl, ⟨x0, x1, y1, y7, z2⟩, hR⟩))
  obtain rfl := unhide HA
  have d1 : decide ((f : Int) < 0) = false := decide_eq_false (by omega)
  have d2 : decide (8 * (lw : Int) < (f : Nat)) = false := decide_eq_false (by omega)
  have d3 : decide (8 * (lw : Int) - (f : Nat) < (dl : Nat)) = false := decide_eq_false (by omega)
  have su : IntKind.i64.wrap (8 * (lw : Int) - (f : Nat)) = 8 * (lw : Int) - (f : Nat) := wrap_small _ (by omega) (by omega)
  go_wp2_with fail
  obtain ⟨g1, g2⟩ := unhide HG' _ (unhide hR)
  have hI0 : Hid (WrI ga lw (layN l f d 0) w4 w4) := hide ⟨rfl, rfl, rfl, rfl, fun _ _ => rfl, g1, fun cur t c2 e => ⟨cur, e, rfl⟩⟩
  have HD2 := hide g2
  clear g1 g2
  subst haw
  have bnp : b ≠ ga := Ne.symm nb
  have HB1 := hide y1
  have HB7 := hide y7
  clear x0 x1 y1 y7 z2
  go_loopw [11] (fun kv wr => ∃ k : Nat, k ≤ dl ∧ kv = .int .i64 (k : Nat) ∧ Hid (WrI ga lw (layN l f d k) w4 wr)) (fun kv _ => dl - (intOf kv).toNat)
  case atStart => exact ⟨0, by omega, rfl, hI0⟩
  case round =>
    obtain ⟨k, hk, rfl, hI⟩ := hrel
    have I := unhide hI
    have y1 : wr.cell? ⟨b, 1, none⟩ = some (.int .i64 (f : Nat)) := (by rw [← unhide HB1]; simp only [World.cell?, I.blk b bnp])
    have y7 : wr.cell? ⟨b, 7, none⟩ = some (.slice da dl dc) := (by rw [← unhide HB7]; simp only [World.cell?, I.blk b bnp])
    by_cases hlt : k < dl
    · have hda := unhide HDA (by omega)
      subst hda
      have ndb := unhide HND (by omega)
      obtain ⟨p, hp⟩ : ∃ p, p = f + k := ⟨_, rfl⟩
      obtain ⟨q, hq⟩ : ∃ q, q = p / 8 := ⟨_, rfl⟩
      obtain ⟨t, ht⟩ : ∃ t, t = p % 8 := ⟨_, rfl⟩
      obtain ⟨sh, hsh⟩ : ∃ sh, sh = 8 * t := ⟨_, rfl⟩
      obtain ⟨o, ho⟩ : ∃ o, o = (layN l f d k).getD q 0 := ⟨_, rfl⟩
      obtain ⟨c, hc⟩ : ∃ c, c = d.getD k 0 := ⟨_, rfl⟩
      have hql : q < lw := by omega
      have ca := (I.cel q hql).1
      rw [← ho] at ca
      have fa := (I.cel q hql).2
      have cd : wr.cell? ⟨db, doff + k, none⟩ = some (.int .u8 (c : Nat)) := by
        rw [hc, ← unhide HD2 k hlt]; simp only [World.cell?, I.blk db (Ne.symm ndb)]
      have hLL := unhide HLL
      have hDD := unhide HDD
      have hc256 : c < 256 := by rw [hc]; exact unhide HDS k (by omega)
      have ho64 : o < 18446744073709551616 := by rw [ho]; exact (layN_is l f d (unhide HW6) (unhide HDS) (by omega) k (by omega)).1 q
      have e1 : IntKind.i64.wrap ((f : Int) + (k : Nat)) = (p : Int) := by rw [show (f : Int) + (k : Nat) = (p : Int) by omega]; exact wrap_nat _ (by omega)
      have e2 : (p : Int).tdiv 8 = (q : Int) := by rw [Int.tdiv_eq_ediv_of_nonneg (by omega)]; omega
      have e2' : (p : Int) / 8 = (q : Int) := by omega
      have e3 : (p : Int).tmod 8 = (t : Int) := by rw [Int.tmod_eq_emod_of_nonneg (by omega)]; omega
      have e3' : (p : Int) % 8 = (t : Int) := by omega
      have e4 : IntKind.i64.wrap (8 * (t : Int)) = (sh : Int) := by rw [show 8 * (t : Int) = (sh : Int) by omega]; exact wrap_nat _ (by omega)
      have wq := wrap_nat q (by omega)
      have wt := wrap_nat t (by omega)
      have i3 : (0 : Int) ≤ (q : Nat) := by omega
      have i4 : (q : Int) < (lw : Nat) := by omega
      have i5 : (0 : Int) ≤ (k : Nat) := by omega
      have i6 : (k : Int) < (dl : Nat) := by omega
      have dlt : decide ((k : Int) < (dl : Nat)) = true := decide_eq_true (by omega)
      have HNX : Hid (WrI ga lw (layN l f d (k + 1)) w4 (wr.setCell ⟨ga, q, none⟩ (.int .u64 (updN o t c : Nat)))) := hide (by
        have := I.set (by rw [layN_length, hLL]) q (updN o t c) hql
        unfold layN
        rw [← hp, ← hq, ← ht, ← ho, ← hc]
        exact this)
      have ht8 : t < 8 := by omega
      clear I hI hLL hDD ho hc hq ht hp HD2 HB1 HB7
      have HV := hide (upd_bits o t c ho64 ht8 hc256)
      go_wp2
      go_region
      all_goals go_wp2
      all_goals refine ⟨⟨k + 1, by omega, by simp, ?_⟩, by simp [intOf]; omega⟩
      all_goals rw [unhide HV]
      all_goals exact hide ((unhide HNX).still ((Still.refl _).drew _))
    · have hkl : k = dl := by omega
      subst hkl
      have dlt : decide ((k : Int) < (k : Nat)) = false := decide_eq_false (by omega)
      go_wp2
      go_ret
      exact ⟨rfl, unhide HR' _ (unhide hR) _ (unhide hI)⟩
end Go.Proofs.YtidfllgaeiopjaaGreat
