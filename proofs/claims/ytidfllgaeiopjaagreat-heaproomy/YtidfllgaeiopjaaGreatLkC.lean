/- look: reach: what is new. -/
import Derived.Test.YtidfllgaeiopjaaGreatStB
import Derived.Test.YtidfllgaeiopjaaGreatHObj
import Derived.Test.YtidfllgaeiopjaaGreatShH
import Derived.Deep.RegionHeld3
namespace Go.Proofs.YtidfllgaeiopjaaGreat
open Go.ChangeShapes Go.WideShapes Go.ChangeAt Go.RowKit
set_option linter.unusedVariables false
set_option maxRecDepth 100000
set_option maxHeartbeats 1000000

/-- what Resize does, and its errno -/
def ResR (M : Hp) (A : Int) (M' : Hp) (last : Nat) : Prop :=
  (¬ (64 ≤ A ∧ A ≤ 524288) ∧ M' = M ∧ last = 36) ∨ ((64 ≤ A ∧ A ≤ 524288) ∧ ∃ M1, IsColl M M1 ∧ ((((A.toNat : Nat) < M1.used ∨ M1.limit < 2 * A.toNat + M1.large) ∧ last = 31 ∧ M' = M1) ∨ ((M1.used ≤ A.toNat ∧ 2 * A.toNat + M1.large ≤ M1.limit) ∧ last = 0 ∧ M' = becM M1 A.toNat)))
def StepR (dd A B Cc : Int) (M M' : Hp) (last : Nat) : Prop :=
  (dd = 1 → MakeR M A B Cc M' last) ∧ (dd = 8 → ∃ M1, IsColl M M1 ∧ M' = fitM M1 0) ∧ (dd = 9 → ResR M A M' last) ∧ (dd ≠ 1 → dd ≠ 9 → last = 0)
/-- behind a step -/
def After2 (w0 : Kp) (ps ph limit n : Nat) (Q : Hp → Nat → Prop) (w' : World) : Prop := ∃ tag' st' M' H' ns' C' last', Both0 w0 w' ps ph tag' st' M' H' ns' limit last' C' ∧ Bnd M' (n + 1) ∧ Q M' last'

theorem step_below {w : World} {ps : Nat} (x : Obj) (W : World) (k : Below (w.heap.size + 1) ((w.setCell ⟨ps, 4, none⟩ (.int .i64 0)).alloc x) W) : Below (w.setCell ⟨ps, 4, none⟩ (.int .i64 0)).heap.size (w.setCell ⟨ps, 4, none⟩ (.int .i64 0)) W ∧ w.heap.size < W.heap.size := by
  have hz : (w.setCell ⟨ps, 4, none⟩ (.int .i64 0)).heap.size = w.heap.size := World.size_setCell _ _ _
  have := box_below (w.setCell ⟨ps, 4, none⟩ (.int .i64 0)) x W (by rw [hz]; exact k)
  exact ⟨this.1, by have := this.2; omega⟩

/-- a handle is written on both sides -/
theorem Both0.hand {w0 : Kp} {W w5 W' : World} {ps ph : Nat} {tag tag' st : Nat → Nat} {M M' : Hp} {H H' : HC} {ns : List (Nat × List Nat × List Nat)} {limit last : Nat} {C : ShC} (b : Both0 w0 W ps ph tag st M H ns limit last C) {gH m : Nat} (o : Option Nat) (ho : C.vH.ownBlock = some gH) (hm : m < M.roots.length) (h5 : HAt w5 ph tag' M' H') (f : Fr tag tag' W w5) (er : M'.roots = M.roots.set m o) (el : M'.limit = M.limit) (g : Gr M' ns) (hst : Still (w5.setCell ⟨gH, m, none⟩ (.int .i64 (hval o))) W') : Both0 w0 W' ps ph tag' (tagAt st C.vH 3) M' H' ns limit last { C with vH := C.vH } := by
  have hkeep : ∀ g, st g ≠ 0 → w5.heap[g]? = W.heap[g]? ∧ tag' g = 0 := fun g e => f.blk g (b.sh.un g e) (b.ap g e)
  have s5 : ShAt w5 ps ph st ns M.roots limit last C := b.sh.same f.size fun g e => (hkeep g e).1
  have t3 := b.sh.t3 gH ho
  have hgp : gH ≠ ps := by rintro rfl; rw [b.sh.t1] at t3; cases t3
  have hbb : ∀ k, k ≠ gH → W'.heap[k]? = w5.heap[k]? := fun k hk => by rw [hst.heap]; exact setCell_else _ _ _ _ _ hk
  have hpp := hbb ps (Ne.symm hgp)
  have hsz : W'.heap.size = w5.heap.size := by rw [hst.heap, World.size_setCell]
  have hL := (s5.hn.put ho m (.int .i64 (hval o)) hm).same (w' := W') (fun g _ => by rw [hst.heap])
  obtain ⟨a1, a2⟩ := s5.hands (w' := W') (hd' := M.roots.set m o) (vH' := C.vH) (by
      rw [List.length_set]
      refine hL.congr fun j hj => ?_
      rw [getD_set_opt M.roots m j o hm]
      by_cases q : j = m
      · rw [if_pos q, if_pos q]
      · rw [if_neg q, if_neg q]) (fun g e => .inl e) ((cell_like hpp _).trans s5.c2) (by omega) (fun k hk1 h1 h3 => hbb k (by rintro rfl; exact h3 t3)) (fun k _ => cell_like hpp k) (fun k => froz_like hpp k)
  have o1 : OwnK w0 w5 tag' := b.o1.fr f
  refine .mk2 h5 o1 ⟨o1.be, b.o2.tg, o1.kp⟩ (fun g e => (hkeep g e).2) (el.trans b.li) ⟨hst.os, hst.tape, hst.output, by omega, fun k hk1 e => ⟨hbb k (by rintro rfl; rw [t3] at e; cases e), (a2 k hk1).trans e⟩⟩ (by rw [er]; exact a1) g

theorem step_any {w0 : Kp} {w : World} {ps ph : Nat} {tag st : Nat → Nat} {M : Hp} {H : HC} {ns : List (Nat × List Nat × List Nat)} {limit last : Nat} {C : ShC} (b0 : Both0 w0 w ps ph tag st M H ns limit last C) {n : Nat} (bd : Bnd M n) (hn : n ≤ 10000) (dd A B Cc hh gg : Int) (vv : Nat) (da : Option Addr) (dc : Nat) (d : List Nat) (ok : DataOk w0.w A vv da dc d) :
    Calls Tryz.prog 12 #[.pointer (some ⟨ps, 0, none⟩), mvV dd A B Cc hh gg vv (.slice da d.length dc)] w fun e w' => e = .returned (.bool true) ∧ After2 w0 ps ph limit n (StepR dd A B Cc M) w' := by
  obtain ⟨sn, fn⟩ := b0.sh.noted 0
  have b : Both0 w0 (w.setCell ⟨ps, 4, none⟩ (.int .i64 ((0 : Nat) : Int))) ps ph tag st M H ns limit 0 C := b0.shad fn sn b0.gr
  have hrt := bd.rt
  have hcl := bd.cl
  have hrz := bd.rz
  have hbW : ∀ W, Below (w.heap.size + 1) ((w.setCell ⟨ps, 4, none⟩ (.int .i64 0)).alloc (mvB dd A B Cc hh gg vv (.slice da d.length dc))) W → Both0 w0 W ps ph tag st M H ns limit 0 C := fun W k => b.below (step_below _ W k).1
  have H30 : ∀ h W, Below (w.heap.size + 1) ((w.setCell ⟨ps, 4, none⟩ (.int .i64 0)).alloc (mvB dd A B Cc hh gg vv (.slice da d.length dc))) W → Calls Tryz.prog 30 #[.pointer (some ⟨ps, 0, none⟩), .int .i64 h] W fun e w' => e = .returned (.int .i64 (handN M.roots.length h)) ∧ Still W w' := fun h W k => hand_any (hbW W k).sh (by omega) h
  have H33 : ∀ x W, Below (w.heap.size + 1) ((w.setCell ⟨ps, 4, none⟩ (.int .i64 0)).alloc (mvB dd A B Cc hh gg vv (.slice da d.length dc))) W → Calls Tryz.prog 33 #[.pointer (some ⟨ps, 0, none⟩), .int .i64 x] W fun e w' => e = .returned (.int .i64 (heldV M.roots x)) ∧ Still W w' := fun x W k => held_any (hbW W k).sh (by omega) x
  have htz : tag w.heap.size = 0 := tag_new b0
  have hplain : ∀ Q : Hp → Nat → Prop, Q M 0 → ∀ W, Below (w.heap.size + 1) ((w.setCell ⟨ps, 4, none⟩ (.int .i64 0)).alloc (mvB dd A B Cc hh gg vv (.slice da d.length dc))) W → After2 w0 ps ph limit n Q W := fun Q hQ W k => ⟨tag, st, M, H, ns, C, 0, hbW W k, bd.same rfl rfl rfl rfl (Nat.le_succ _), hQ⟩
  have c0 := b0.sh.c0
  have c2 := b0.sh.c2
  have c4 : ∃ x, w.cell? ⟨ps, 4, none⟩ = some x := ⟨_, b0.sh.c4⟩
  have f4 := b0.sh.fz 4 (by decide)
  by_cases d1 : dd = 1
  · subst d1
    refine step_make A B Cc hh gg vv _ C.vH rfl c0 c2 c4 f4 (H30 hh) (fun W k => ?_)
    refine (makes_any (hbW W k) bd hn 1 A B Cc hh gg vv _).mono ?_
    rintro e w' ⟨rfl, t', s', M', H', n', C', l', b', bd', r⟩
    exact ⟨rfl, t', s', M', H', n', C', l', b', bd', ⟨fun _ => r, fun h => absurd h (by decide), fun h => absurd h (by decide), fun h => absurd rfl h⟩⟩
  by_cases dc4 : dd = 2 ∨ dd = 3 ∨ dd = 4 ∨ dd = 7
  · refine step_change dd A B Cc hh gg vv _ C.vH rfl c0 c2 c4 f4 (H30 hh) dc4 (fun W k => ?_)
    refine (changes_any (hbW W k) bd hn dd A B Cc hh gg vv da dc d ok dc4).mono ?_
    rintro e w' ⟨rfl, t', s', M', H', n', C', b', bd'⟩
    exact ⟨rfl, t', s', M', H', n', C', 0, b', bd', ⟨fun h => absurd h d1, fun h => by omega, fun h => by omega, fun _ _ => rfl⟩⟩
  by_cases d8 : dd = 8
  · subst d8
    refine step_collect A B Cc hh gg vv _ C.vH rfl c0 c2 c4 f4 (H30 hh) (fun W k => ?_)
    have bW := hbW W k
    refine (hcollect_any bW.he (by omega) (by omega)).mono ?_
    rintro e w' ⟨rfl, t', H', M1, hc, h', f⟩
    have q := hc.nums
    obtain ⟨o1, o2, o3, _, o5⟩ := fitM_objs M1 0
    have fr := fitM_resz M1 0
    refine ⟨rfl, t', st, fitM M1 0, H', ns, C, 0, bW.heap f h' ((b.gr.coll b.he.wf hc).fit 0) (by rw [o2, q.2.2.2.2.1]) (by rw [o3, q.1]), ⟨?_, ?_, ?_, ?_, ?_, ?_, ?_⟩, ⟨fun h => absurd h (by decide), fun _ => ⟨M1, hc, rfl⟩, fun h => absurd h (by decide), fun _ _ => rfl⟩⟩
    · rw [o1, q.2.2.2.2.2]; exact bd.o1
    · rw [o1, q.2.2.2.2.2]; have := bd.ob; omega
    · rw [fr.2, q.2.2.1]; omega
    · have := fr.1; rw [q.2.2.2.1] at this; omega
    · rw [o5, coll_slots hc]; have := bd.sl; omega
    · rw [o2, q.2.2.2.2.1]; omega
    · rw [o5, coll_slots hc, o1, q.2.2.2.2.2]; exact bd.so
  by_cases d9 : dd = 9
  · subst d9
    refine step_resize A B Cc hh gg vv _ C.vH rfl c0 c2 c4 f4 (H30 hh) (G := fun c w5 => ∃ tag' M' H', Both0 w0 w5 ps ph tag' st M' H' ns limit 0 C ∧ Bnd M' (n + 1) ∧ ResR M A M' c) (fun W k => ?_) (fun c w5 hg W' hst => ?_)
    · have bW := hbW W k
      have hz := (step_below _ W k).2
      have hps : st ps ≠ 0 := by rw [b.sh.t1]; decide
      by_cases hA : 64 ≤ A ∧ A ≤ 524288
      · obtain ⟨a, rfl⟩ : ∃ a : Nat, A = (a : Nat) := ⟨A.toNat, by omega⟩
        refine (hresize_any bW.he (by omega) (by omega) a (by omega) (by omega)).mono ?_
        rintro e w' ⟨t', H', M1, hc, f, h⟩
        have q := hc.nums
        have hk1 := (f.blk ps (bW.sh.un ps hps) (b.ap ps hps)).1
        have hk2 := (f.blk _ hz htz).1
        have g1 := b.gr.coll b.he.wf hc
        have b1' : Bnd M1 (n + 1) := ⟨by rw [q.2.2.2.2.2]; exact bd.o1, by rw [q.2.2.2.2.2]; have := bd.ob; omega, by rw [q.2.2.1]; omega, by rw [q.2.2.2.1]; omega, by rw [coll_slots hc]; have := bd.sl; omega, by rw [q.2.2.2.2.1]; omega, by rw [coll_slots hc, q.2.2.2.2.2]; exact bd.so⟩
        rcases h with ⟨hno, rfl, h'⟩ | ⟨hyes, rfl, h'⟩
        · exact ⟨31, rfl, hk1, hk2, t', M1, H', bW.heap f h' g1 q.2.2.2.2.1 q.1, b1', .inr ⟨hA, M1, hc, .inl ⟨hno, rfl, rfl⟩⟩⟩
        · have o := becM_parts M1 a
          have fr := becM_resz M1 a
          refine ⟨0, rfl, hk1, hk2, t', becM M1 a, H', bW.heap f h' (g1.bec a) (by rw [o.2.1, q.2.2.2.2.1]) (by rw [o.2.2.1, q.1]), ⟨by rw [o.1]; exact b1'.o1, by rw [o.1]; exact b1'.ob, by rw [fr.2]; exact b1'.cl, ?_, by rw [o.2.2.2.2.1]; exact b1'.sl, by rw [o.2.1]; exact b1'.rt, by rw [o.2.2.2.2.1, o.1]; exact b1'.so⟩, .inr ⟨hA, M1, hc, .inr ⟨hyes, rfl, rfl⟩⟩⟩
          have := fr.1; rw [q.2.2.2.1] at this; omega
      · refine (resize_bad (n := A) (by omega)).mono ?_
        rintro e w' ⟨rfl, rfl⟩
        exact ⟨36, rfl, rfl, rfl, tag, M, H, bW, bd.same rfl rfl rfl rfl (Nat.le_succ _), .inl ⟨hA, rfl, rfl⟩⟩
    · obtain ⟨t', M', H', b5, bd5, r⟩ := hg
      obtain ⟨s6, f6⟩ := b5.sh.noted c
      exact ⟨t', st, M', H', ns, C, c, (b5.shad f6 s6 b5.gr).below hst.below, bd5, ⟨fun h => absurd h (by decide), fun h => absurd h (by decide), fun _ => r, fun _ h => absurd rfl h⟩⟩
  have hno : ∀ (M' : Hp), StepR dd A B Cc M M' 0 := fun M' => ⟨fun h => absurd h d1, fun h => absurd h d8, fun h => absurd h d9, fun _ _ => rfl⟩
  by_cases d5 : dd = 5
  · subst d5
    rcases held_cases M.roots (handN M.roots.length hh) with hx | ⟨m, i, e1, hm, hri, e2⟩
    · exact step_drop0 A B Cc hh gg vv _ C.vH rfl c0 c2 c4 f4 (H30 hh) (H33 _) (by rw [hx]; decide) (hplain _ (hno M))
    · obtain ⟨gH, ch, hvH, hoH, hcH⟩ := b0.sh.hn.at (by omega)
      have t3 := b.sh.t3 gH hoH
      refine step_drop A B Cc hh gg vv _ C.vH rfl c0 c2 c4 f4 (H30 hh) (H33 _) hvH hm (by omega) e1 (hcH m hm).1 (hcH m hm).2 (by rintro rfl; rw [b.sh.t1] at t3; cases t3) (G := fun w5 => ∃ W tag' H', Both0 w0 W ps ph tag st M H ns limit 0 C ∧ HAt w5 ph tag' (dropM M m) H' ∧ Fr tag tag' W w5) (fun W k => ?_) (by rw [e2]; omega) (fun w5 hg W' hst => ?_)
      · have bW := hbW W k
        have hz := (step_below _ W k).2
        have := hdropM_yes bW.he (by omega) m i hri hm
        rw [← e1] at this
        refine this.mono ?_
        rintro e w' ⟨rfl, t', H', h', f⟩
        have hg' : ∀ g, st g ≠ 0 → w'.heap[g]? = W.heap[g]? := fun g e => (f.blk g (bW.sh.un g e) (b.ap g e)).1
        exact ⟨rfl, hg' ps (by rw [b.sh.t1]; decide), (f.blk _ hz htz).1, hg' gH (by rw [t3]; decide), W, t', H', bW, h', f⟩
      · obtain ⟨W, t', H', bW, h', f⟩ := hg
        have b6 := bW.hand (m := m) none hoH hm h' f rfl rfl (b.gr.roots _) hst
        refine ⟨t', _, dropM M m, H', ns, _, 0, b6, bd.same rfl rfl rfl rfl ?_, hno _⟩
        show (M.roots.set m none).length ≤ _
        rw [List.length_set]; omega
  by_cases d6 : dd = 6
  · subst d6
    rcases held_cases M.roots (handN M.roots.length hh) with hx | ⟨m, i, e1, hm, hri, e2⟩
    · exact step_put0 A B Cc hh gg vv _ C.vH rfl c0 c2 c4 f4 (H30 hh) (H33 _) (H30 gg) (H33 _) (.inl (by rw [hx]; decide)) (hplain _ (hno M))
    rcases held_cases M.roots (handN M.roots.length gg) with hx | ⟨m', t, f1, hm', hrt', f2⟩
    · exact step_put0 A B Cc hh gg vv _ C.vH rfl c0 c2 c4 f4 (H30 hh) (H33 _) (H30 gg) (H33 _) (.inr (by rw [hx]; decide)) (hplain _ (hno M))
    · obtain ⟨gH, ch, hvH, hoH, hcH⟩ := b0.sh.hn.at (by omega)
      have t3 := b.sh.t3 gH hoH
      obtain ⟨q1, q2, q3⟩ := may_ref b.he.wf.ok (root_is b.he.wf.ok hm' hrt')
      have H33g := H33 (handN M.roots.length gg)
      rw [f2] at H33g
      refine step_put A B Cc hh gg vv _ C.vH rfl c0 c2 c4 f4 (H30 hh) (H33 _) (H30 gg) H33g (v := refW M t) (fun W k => by rw [f1]; exact at_held (hbW W k).he (by omega) hm' hrt') hvH hm (by omega) e1 (hcH m hm).1 (hcH m hm).2 (by rintro rfl; rw [b.sh.t1] at t3; cases t3) (G := fun w5 => ∃ W tag' H', Both0 w0 W ps ph tag st M H ns limit 0 C ∧ HAt w5 ph tag' (putM M m (refW M t)) H' ∧ Fr tag tag' W w5) (fun W k => ?_) (by rw [e2]; omega) (by omega) (fun w5 hg W' hst => ?_)
      · have bW := hbW W k
        have hz := (step_below _ W k).2
        have := hputM_yes bW.he (refW M t) q3 m i hri hm
        rw [← e1, q1] at this
        refine this.mono ?_
        rintro e w' ⟨rfl, t', H', h', f⟩
        have hg' : ∀ g, st g ≠ 0 → w'.heap[g]? = W.heap[g]? := fun g e => (f.blk g (bW.sh.un g e) (b.ap g e)).1
        exact ⟨rfl, hg' ps (by rw [b.sh.t1]; decide), (f.blk _ hz htz).1, hg' gH (by rw [t3]; decide), W, t', H', bW, h', f⟩
      · obtain ⟨W, t', H', bW, h', f⟩ := hg
        have b6 := bW.hand (m := m) (some t) hoH hm h' f (by show M.roots.set m (some (numOf M (refW M t))) = _; rw [q2]) rfl (b.gr.roots _) hst
        refine ⟨t', _, putM M m (refW M t), H', ns, _, 0, b6, bd.same rfl rfl rfl rfl ?_, hno _⟩
        show (M.roots.set m _).length ≤ _
        rw [List.length_set]; omega
  exact step_other dd A B Cc hh gg vv _ C.vH rfl c0 c2 c4 f4 (H30 hh) (by omega) (hplain _ (hno M))
end Go.Proofs.YtidfllgaeiopjaaGreat
namespace Go.Proofs.YtidfllgaeiopjaaGreat
open Go.ChangeShapes Go.WideShapes Go.ChangeAt Go.RowKit
set_option linter.unusedVariables false
set_option linter.unusedSimpArgs false
set_option maxRecDepth 100000
set_option maxHeartbeats 1000000

/-- a move -/
structure MvL where
  K : Int
  A : Int
  B : Int
  C : Int
  H : Int
  G : Int
  V : Nat
  a : Option Addr
  l : List Nat
  c : Nat
structure MvAt (w : World) (b o : Nat) (q : MvL) : Prop where
  m0 : w.cell? ⟨b, o, none⟩ = some (.int .i64 q.K)
  m1 : w.cell? ⟨b, o + 1, none⟩ = some (.int .i64 q.A)
  m2 : w.cell? ⟨b, o + 2, none⟩ = some (.int .i64 q.B)
  m3 : w.cell? ⟨b, o + 3, none⟩ = some (.int .i64 q.C)
  m4 : w.cell? ⟨b, o + 4, none⟩ = some (.int .i64 q.H)
  m5 : w.cell? ⟨b, o + 5, none⟩ = some (.int .i64 q.G)
  m6 : w.cell? ⟨b, o + 6, none⟩ = some (.int .u64 (q.V : Nat))
  m7 : w.cell? ⟨b, o + 7, none⟩ = some (.slice q.a q.l.length q.c)
theorem MvAt.like {w w' : World} {b o : Nat} {q : MvL} (h : MvAt w b o q) (e : w'.heap[b]? = w.heap[b]?) : MvAt w' b o q := by
  have k : ∀ i, w'.cell? ⟨b, i, none⟩ = w.cell? ⟨b, i, none⟩ := fun i => by simp only [World.cell?, e]
  exact ⟨(k _).trans h.m0, (k _).trans h.m1, (k _).trans h.m2, (k _).trans h.m3, (k _).trans h.m4, (k _).trans h.m5, (k _).trans h.m6, (k _).trans h.m7⟩
/-- a script of n moves -/
def Moves3 (w : World) (a : Option Addr) (n : Nat) : Prop := n = 0 ∨ ∃ b off, a = some ⟨b, off, none⟩ ∧ b < w.heap.size ∧ ∀ i, i < n → ∃ q, MvAt w b (off + i * 8) q ∧ DataOk w q.A q.V q.a q.c q.l

def SmallP (w : World) (n : Nat) (e : Ending) (w' : World) : Prop := ∃ v, e = .returned (.bool v) ∧ (v = true → n ≤ 200) ∧ Below w.heap.size w w'
theorem small_any (w : World) (lim : Int) (a : Option Addr) (n cap : Nat) (hS : Moves3 w a n) : Calls Tryz.prog 10 #[.agg #[.int .i64 lim, .slice a n cap]] w (SmallP w n) := by
  by_cases h : 200 < n
  · have d1 : decide ((200 : Int) < (n : Nat)) = true := decide_eq_true (by omega)
    clear hS
    go_enter Tryz.func10, Tryz.ntmps10
    go_wp2_with fail
    go_ret
    exact ⟨false, rfl, fun h => (by cases h), (Below.refl _ _).alloc (Nat.le_refl _) _⟩
  · have d1 : decide ((200 : Int) < (n : Nat)) = false := decide_eq_false (by omega)
    have hb : Below w.heap.size w (w.alloc (.cells #[.int .i64 lim, .slice a n cap] 24)) := (Below.refl _ _).alloc (Nat.le_refl _) _
    have y1 : (w.alloc (.cells #[.int .i64 lim, .slice a n cap] 24)).cell? ⟨w.heap.size, 1, none⟩ = some (.slice a n cap) := World.cell?_alloc_at _ _ _ _ rfl
    have hs0 : (w.alloc (.cells #[.int .i64 lim, .slice a n cap] 24)).heap.size = w.heap.size + 1 := by simp
    have HI0 : Hid (Below w.heap.size w (w.alloc (.cells #[.int .i64 lim, .slice a n cap] 24)) ∧ Below (w.heap.size + 1) (w.alloc (.cells #[.int .i64 lim, .slice a n cap] 24)) (w.alloc (.cells #[.int .i64 lim, .slice a n cap] 24))) := hide ⟨hb, Below.refl _ _⟩
    have HS := hide hS
    clear hS hb
    go_enter Tryz.func10, Tryz.ntmps10
    go_wp2_with fail
    generalize hW : World.alloc w _ = W0 at *
    have HY := hide y1
    clear hW y1
    go_loopw [3] (fun iv wr => ∃ i : Nat, iv = .int .i64 (i : Nat) ∧ i ≤ n ∧ Hid (Below w.heap.size w wr ∧ Below (w.heap.size + 1) W0 wr)) (fun iv _ => n - (intOf iv).toNat)
    case atStart => exact ⟨0, rfl, Nat.zero_le _, HI0⟩
    case round =>
      obtain ⟨i, rfl, hi, hI⟩ := hrel
      have y1 : wr.cell? ⟨w.heap.size, 1, none⟩ = some (.slice a n cap) := ((unhide hI).2.cell (p := ⟨w.heap.size, 1, none⟩) (Nat.lt_succ_self _)).trans (unhide HY)
      have w1 : IntKind.i64.wrap ((i : Int) + 1) = (i : Int) + 1 := wrap_small _ (by omega) (by omega)
      by_cases hin : i < n
      · obtain ⟨b, off, rfl, hbl, hq⟩ : ∃ b off, a = some ⟨b, off, none⟩ ∧ b < w.heap.size ∧ ∀ i, i < n → ∃ q, MvAt w b (off + i * 8) q ∧ DataOk w q.A q.V q.a q.c q.l := by
          rcases unhide HS with h | h
          · omega
          · exact h
        obtain ⟨q, hm, _⟩ := hq i hin
        obtain ⟨r0, r1, r2, r3, r4, r5, r6, r7⟩ := hm.like ((unhide hI).1.block b hbl)
        obtain ⟨K, A, B, C, HH, GG, V, da, dl, dc⟩ := q
        dsimp only at r0 r1 r2 r3 r4 r5 r6 r7
        obtain ⟨dn, hdn⟩ : ∃ dn, dl.length = dn := ⟨_, rfl⟩
        rw [hdn] at r7
        have dl' : decide ((i : Int) < (n : Nat)) = true := decide_eq_true (by omega)
        have i1 : (0 : Int) ≤ (i : Nat) := by omega
        have i2 : (i : Int) < (n : Nat) := by omega
        have HNX : Hid (∀ x, Below w.heap.size w (wr.alloc x) ∧ Below (w.heap.size + 1) W0 (wr.alloc x)) := hide (fun x => by
          have k := unhide hI
          have hz := k.2.size
          rw [hs0] at hz
          exact ⟨k.1.alloc k.1.size _, k.2.alloc hz _⟩)
        have hnew : ∀ x, (wr.alloc (.cells x 33)).heap.size = wr.heap.size + 1 := fun x => by simp
        clear hdn hq hm HS hbl
        have hgo : ∀ x, ∃ i', (Value.int IntKind.i64 ((i : Int) + 1) = .int .i64 (i' : Nat)) ∧ i' ≤ n ∧ Hid (Below w.heap.size w (wr.alloc x) ∧ Below (w.heap.size + 1) W0 (wr.alloc x)) := fun x => ⟨i + 1, by simp, by omega, hide (unhide HNX x)⟩
        have HGO := hide hgo
        clear hgo
        by_cases t1 : K = 1
        · subst t1
          by_cases t2 : 1000 < B
          · have e2 : decide (1000 < B) = true := decide_eq_true t2
            by_cases t4 : B ≤ 1048576
            · have e4 : decide (B ≤ 1048576) = true := decide_eq_true t4
              by_cases t5 : C ≤ 1048576
              · have e5 : decide (C ≤ 1048576) = true := decide_eq_true t5
                go_wp2
                go_ret
                exact ⟨false, rfl, fun h => (by cases h), (unhide HNX _).1⟩
              · have e5 : decide (C ≤ 1048576) = false := decide_eq_false t5
                go_wp2
                all_goals go_roundw
                all_goals first | exact unhide HGO _ | (simp [intOf]; omega)
            · have e4 : decide (B ≤ 1048576) = false := decide_eq_false t4
              go_wp2
              all_goals go_roundw
              all_goals first | exact unhide HGO _ | (simp [intOf]; omega)
          · have e2 : decide (1000 < B) = false := decide_eq_false t2
            by_cases t3 : 1000 < C
            · have e3 : decide (1000 < C) = true := decide_eq_true t3
              have e4 : decide (B ≤ 1048576) = true := decide_eq_true (by omega)
              by_cases t5 : C ≤ 1048576
              · have e5 : decide (C ≤ 1048576) = true := decide_eq_true t5
                go_wp2
                go_ret
                exact ⟨false, rfl, fun h => (by cases h), (unhide HNX _).1⟩
              · have e5 : decide (C ≤ 1048576) = false := decide_eq_false t5
                go_wp2
                all_goals go_roundw
                all_goals first | exact unhide HGO _ | (simp [intOf]; omega)
            · have e3 : decide (1000 < C) = false := decide_eq_false t3
              go_wp2
              all_goals go_roundw
              all_goals first | exact unhide HGO _ | (simp [intOf]; omega)
        · have e1 : decide (K = 1) = false := decide_eq_false t1
          go_wp2
          all_goals go_roundw
          all_goals first | exact unhide HGO _ | (simp [intOf]; omega)
      · have hiN : i = n := by omega
        subst hiN
        have dl' : decide ((i : Int) < (i : Nat)) = false := decide_eq_false (by omega)
        go_wp2
        go_ret
        exact ⟨true, rfl, fun _ => (by omega), (unhide hI).1⟩
end Go.Proofs.YtidfllgaeiopjaaGreat
namespace Go.Proofs.YtidfllgaeiopjaaGreat
open Go.ChangeShapes Go.WideShapes Go.ChangeAt Go.RowKit
set_option linter.unusedVariables false
set_option linter.unusedSimpArgs false
set_option maxRecDepth 100000
set_option maxHeartbeats 1000000

/-- the blocks that were made beside both are kept from now on -/
theorem Both0.keep {k : Kp} {w w' : World} {ps ph : Nat} {tag st : Nat → Nat} {M : Hp} {H : HC} {ns : List (Nat × List Nat × List Nat)} {limit last : Nat} {C : ShC} (b : Both0 k w ps ph tag st M H ns limit last C) (q : Below w.heap.size w w') : Both0 ⟨k.w, w', fun x => k.K x ∨ (w.heap.size ≤ x ∧ x < w'.heap.size)⟩ w' ps ph tag st M H ns limit last C := by
  have b' := b.below q
  have ht : ∀ g, w.heap.size ≤ g → tag g = 0 := fun g hg => by
    by_cases e : tag g = 0
    · exact e
    · have := b.he.raw.un g e; omega
  have hs : ∀ g, w.heap.size ≤ g → st g = 0 := fun g hg => by
    by_cases e : st g = 0
    · exact e
    · have := b.sh.un g e; omega
  refine ⟨b'.he, b'.sh, b'.gr, b'.li, ⟨b'.o1.be, fun g hg => ?_, fun g hg => ?_⟩, ⟨b'.o2.be, fun g hg => ?_, fun g hg => ?_⟩, b'.ap⟩
  · rcases hg with hg | hg | hg
    · exact b'.o1.tg g (.inl hg)
    · exact b'.o1.tg g (.inr hg)
    · exact ht g hg.1
  · rcases hg with hg | hg
    · exact ⟨(b'.o1.kp g hg).1, rfl⟩
    · exact ⟨hg.2, rfl⟩
  · rcases hg with hg | hg | hg
    · exact b'.o2.tg g (.inl hg)
    · exact b'.o2.tg g (.inr hg)
    · exact hs g hg.1
  · rcases hg with hg | hg
    · exact ⟨(b'.o1.kp g hg).1, rfl⟩
    · exact ⟨hg.2, rfl⟩
theorem Both0.drop {k : Kp} {w : World} {ps ph : Nat} {tag st : Nat → Nat} {M : Hp} {H : HC} {ns : List (Nat × List Nat × List Nat)} {limit last : Nat} {C : ShC} (b : Both0 k w ps ph tag st M H ns limit last C) : Both0 ⟨k.w, k.w, fun _ => False⟩ w ps ph tag st M H ns limit last C :=
  ⟨b.he, b.sh, b.gr, b.li, ⟨b.o1.be, fun g hg => b.o1.tg g (.inl (hg.elim id False.elim)), fun g hg => hg.elim⟩, ⟨b.o2.be, fun g hg => b.o2.tg g (.inl (hg.elim id False.elim)), fun g hg => hg.elim⟩, b.ap⟩

/-- both, at most n steps made -/
def Inv (ps ph lim n : Nat) (k : Kp) (M : Hp) (w : World) : Prop := ∃ tag st H ns C last, Both0 k w ps ph tag st M H ns lim last C ∧ Bnd M n
/-- what is kept is as it was -/
def SameK (k : Kp) (w w' : World) : Prop := ∀ g, g < k.w.heap.size ∨ k.K g → w'.heap[g]? = w.heap[g]?
def Kp.add (k : Kp) (w w' : World) : Kp := ⟨k.w, w', fun x => k.K x ∨ (w.heap.size ≤ x ∧ x < w'.heap.size)⟩
theorem Both0.sameK {k : Kp} {w w' : World} {ps ph ps' ph' : Nat} {tag st tag' st' : Nat → Nat} {M M' : Hp} {H H' : HC} {ns ns' : List (Nat × List Nat × List Nat)} {limit last limit' last' : Nat} {C C' : ShC} (b : Both0 k w ps ph tag st M H ns limit last C) (b' : Both0 k w' ps' ph' tag' st' M' H' ns' limit' last' C') : SameK k w w' := fun g hg => by
  rcases hg with hg | hg
  · exact (b'.o1.be.block g hg).trans (b.o1.be.block g hg).symm
  · exact (b'.o1.kp g hg).2.trans (b.o1.kp g hg).2.symm
theorem Inv.c0 {ps ph lim n : Nat} {k : Kp} {M : Hp} {w : World} (h : Inv ps ph lim n k M w) : w.cell? ⟨ps, 0, none⟩ = some (.pointer (some ⟨ph, 0, none⟩)) := by
  obtain ⟨tag, st, H, ns, C, last, b, bd⟩ := h
  exact b.sh.c0
theorem Inv.drop {ps ph lim n : Nat} {k : Kp} {M : Hp} {w : World} (h : Inv ps ph lim n k M w) : Inv ps ph lim n ⟨k.w, k.w, fun _ => False⟩ M w := by
  obtain ⟨tag, st, H, ns, C, last, b, bd⟩ := h
  exact ⟨tag, st, H, ns, C, last, b.drop, bd⟩
theorem Inv.add {ps ph lim n : Nat} {k : Kp} {M : Hp} {w w' : World} (h : Inv ps ph lim n k M w) (q : Below w.heap.size w w') : Inv ps ph lim n (k.add w w') M w' := by
  obtain ⟨tag, st, H, ns, C, last, b, bd⟩ := h
  exact ⟨tag, st, H, ns, C, last, b.keep q, bd⟩
theorem Inv.still {ps ph lim n : Nat} {k : Kp} {M : Hp} {w w' : World} (h : Inv ps ph lim n k M w) (q : Below w.heap.size w w') : Inv ps ph lim n k M w' := by
  obtain ⟨tag, st, H, ns, C, last, b, bd⟩ := h
  exact ⟨tag, st, H, ns, C, last, b.below q, bd⟩
theorem Inv.wf {ps ph lim n : Nat} {k : Kp} {M : Hp} {w : World} (h : Inv ps ph lim n k M w) : HpWf M ∧ M.limit = lim ∧ M.resz ≤ 10 * n ∧ M.coll ≤ 10 * n := by
  obtain ⟨tag, st, H, ns, C, last, b, bd⟩ := h
  exact ⟨b.he.wf, b.li, bd.rz, bd.cl⟩
end Go.Proofs.YtidfllgaeiopjaaGreat
namespace Go.Proofs.YtidfllgaeiopjaaGreat
open Go.ChangeShapes Go.WideShapes Go.ChangeAt Go.RowKit
set_option linter.unusedVariables false
set_option linter.unusedSimpArgs false
set_option maxRecDepth 100000
set_option maxHeartbeats 1000000

/-- where a node is, as the walk has come to it: 0: not yet -/
def whr (M : Hp) (k : Wk) (j : Nat) : Nat := if j ∈ k.cop ∨ j ∈ k.lin then refW M j else 0
def wordsK (M : Hp) (k : Wk) : Nat := 1 + (k.cop.map fun i => osz (ob M i)).sum
def largeK (M : Hp) (k : Wk) : Nat := (k.lin.map fun i => 1 + osz (ob M i)).sum
structure SeenC where
  vS : Value
  vB : Value
  vW : Value
/-- what look has seen, at px: the refs of the small ones and of the large ones in order, of each of N nodes its ref, the words -/
structure SeenAt (w : World) (b0 px : Nat) (M : Hp) (N : Nat) (k : Wk) (V : SeenC) : Prop where
  c0 : w.cell? ⟨px, 0, none⟩ = some V.vS
  c1 : w.cell? ⟨px, 1, none⟩ = some V.vB
  c2 : w.cell? ⟨px, 2, none⟩ = some V.vW
  c3 : w.cell? ⟨px, 3, none⟩ = some (.int .i64 (wordsK M k : Nat))
  c4 : w.cell? ⟨px, 4, none⟩ = some (.int .i64 (largeK M k : Nat))
  fz : ∀ i, i < 5 → w.frozen? ⟨px, i, none⟩ = false
  s : Line w 30 V.vS k.cop.length (fun j => .int .u64 (refW M (k.cop.getD j 0) : Nat))
  b : Line w 30 V.vB k.lin.length (fun j => .int .u64 (refW M (k.lin.getD j 0) : Nat))
  h : Line w 30 V.vW N (fun j => .int .u64 (whr M k j : Nat))
  lo : b0 ≤ px ∧ ∀ g, (V.vS.ownBlock = some g ∨ V.vB.ownBlock = some g ∨ V.vW.ownBlock = some g) → b0 ≤ g ∧ g ≠ px
  d1 : ∀ g, V.vS.ownBlock = some g → V.vB.ownBlock ≠ some g
  d2 : ∀ g, V.vS.ownBlock = some g → V.vW.ownBlock ≠ some g
  d3 : ∀ g, V.vB.ownBlock = some g → V.vW.ownBlock ≠ some g
theorem SeenAt.lt {w : World} {b0 px N : Nat} {M : Hp} {k : Wk} {V : SeenC} (h : SeenAt w b0 px M N k V) : px < w.heap.size := block_lt_of_cell h.c0
/-- what is only asked leaves it -/
theorem SeenAt.below {w w' : World} {b0 px N : Nat} {M : Hp} {k : Wk} {V : SeenC} (h : SeenAt w b0 px M N k V) (q : Below w.heap.size w w') : SeenAt w' b0 px M N k V := by
  have hc : ∀ o, w'.cell? ⟨px, o, none⟩ = w.cell? ⟨px, o, none⟩ := fun o => q.cell (p := ⟨px, o, none⟩) h.lt
  refine ⟨(hc 0).trans h.c0, (hc 1).trans h.c1, (hc 2).trans h.c2, (hc 3).trans h.c3, (hc 4).trans h.c4, fun i hi => ?_, h.s.same fun g e => q.block g (h.s.lt g e), h.b.same fun g e => q.block g (h.b.lt g e), h.h.same fun g e => q.block g (h.h.lt g e), h.lo, h.d1, h.d2, h.d3⟩
  rw [← h.fz i hi]
  simp only [World.frozen?, q.block px h.lt]
/-- all that the walk has come to is there -/
def AllIs (M : Hp) (k : Wk) : Prop := ∀ i, i ∈ k.cop ∨ i ∈ k.lin → Is M i
theorem ref_inj {M : Hp} (ok : HpOk M) {i j : Nat} (hi : Is M i) (hj : Is M j) (e : refW M i = refW M j) : i = j := by
  rw [← (num_back ok hi).1, ← (num_back ok hj).1, e]
theorem is_pos {M : Hp} (ok : HpOk M) {i : Nat} (h : Is M i) : i ≠ 0 := by
  rintro rfl
  exact (num_back ok h).2.2 rfl
theorem whr_ne {M : Hp} (ok : HpOk M) {k : Wk} (ha : AllIs M k) {i j : Nat} (hi : Is M i) (hj : j ≠ i) : whr M k j ≠ refW M i := by
  unfold whr
  split
  · rename_i h
    exact fun e => hj (ref_inj ok (ha j h) hi e)
  · exact fun e => (num_back ok hi).2.2 e.symm
theorem node_any {w : World} {b0 px N : Nat} {M : Hp} {k : Wk} {V : SeenC} (h : SeenAt w b0 px M N k V) (ok : HpOk M) (ha : AllIs M k) (hN : N ≤ 1000000) {i : Nat} (hi : i ∈ k.cop ∨ i ∈ k.lin) (hiN : i < N) :
    Calls Tryz.prog 37 #[.pointer (some ⟨px, 0, none⟩), .int .u64 (refW M i : Nat)] w fun e w' => e = .returned (.int .i64 (i : Nat)) ∧ Still w w' := by
  have hI := ha i hi
  have h0 := is_pos ok hI
  obtain ⟨g, cap, ev, ho, hc⟩ := h.h.at (by omega)
  have c2 := h.c2
  rw [ev] at c2
  have HN : Hid (∀ j, j ≠ i → ((whr M k j : Int) == (refW M i : Nat)) = false) := hide (fun j hj => by
    have := whr_ne ok ha hI hj
    simp; omega)
  have HE : Hid (whr M k i = refW M i) := hide (by unfold whr; rw [if_pos hi])
  have HC : Hid (∀ j, j < N → w.cell? ⟨g, j, none⟩ = some (.int .u64 (whr M k j : Nat))) := hide (fun j hj => (hc j hj).1)
  obtain ⟨R, hR⟩ : ∃ R, refW M i = R := ⟨_, rfl⟩
  rw [hR] at HN HE ⊢
  clear h ok ha hI ev ho hc hi hR
  go_enter Tryz.func37, Tryz.ntmps37
  go_wp2_with fail
  go_loopw [5] (fun iv wr => ∃ j : Nat, iv = .int .i64 (j : Nat) ∧ 1 ≤ j ∧ j ≤ i ∧ Still w wr) (fun iv _ => N - (intOf iv).toNat)
  case atStart => exact ⟨1, rfl, Nat.le_refl _, by omega, Still.refl _⟩
  case round =>
    obtain ⟨j, rfl, hj1, hj2, hk⟩ := hrel
    have c2' := (hk.cell _).trans c2
    have e0 := (hk.cell _).trans (unhide HC j (by omega))
    have dl : decide ((j : Int) < (N : Nat)) = true := decide_eq_true (by omega)
    have i1 : (0 : Int) ≤ (j : Nat) := by omega
    have i2 : (j : Int) < (N : Nat) := by omega
    have w1 : IntKind.i64.wrap ((j : Int) + 1) = (j : Int) + 1 := wrap_small _ (by omega) (by omega)
    have HK := hide hk
    by_cases hji : j = i
    · subst hji
      rw [unhide HE] at e0
      clear hk c2
      go_wp2_with fail
      all_goals go_ret
      all_goals exact ⟨by simp, by first | exact unhide HK | exact (unhide HK).drew _⟩
    · have dn := unhide HN j hji
      have dn' : ((whr M k j : Int) = (R : Nat)) = False := by simpa using dn
      clear hk c2
      go_wp2_with fail
      all_goals go_roundw
      all_goals first | exact ⟨j + 1, by simp, by omega, by omega, unhide HK⟩ | (simp [intOf]; omega)
end Go.Proofs.YtidfllgaeiopjaaGreat
namespace Go.Proofs.YtidfllgaeiopjaaGreat
open Go.ChangeShapes Go.WideShapes Go.ChangeAt Go.RowKit
set_option linter.unusedVariables false
set_option linter.unusedSimpArgs false
set_option maxRecDepth 100000
set_option maxHeartbeats 1000000

theorem reach_none {px ps : Nat} (w : World) : Calls Tryz.prog 36 #[.pointer (some ⟨px, 0, none⟩), .pointer (some ⟨ps, 0, none⟩), .int .u64 0, .int .i64 0] w fun e w' => e = .returned (.bool true) ∧ Still w w' := by
  go_enter Tryz.func36, Tryz.ntmps36
  go_wp2_with fail
  all_goals go_ret
  all_goals exact ⟨by simp, by first | exact Still.refl _ | exact (Still.refl _).drew _⟩
theorem reach_seen {w : World} {b0 px ps N : Nat} {M : Hp} {k : Wk} {V : SeenC} (h : SeenAt w b0 px M N k V) (ok : HpOk M) (ha : AllIs M k) (hN : N ≤ 1000000) {i : Nat} (hi : i ∈ k.cop ∨ i ∈ k.lin) (hiN : i < N) :
    Calls Tryz.prog 36 #[.pointer (some ⟨px, 0, none⟩), .pointer (some ⟨ps, 0, none⟩), .int .u64 (refW M i : Nat), .int .i64 (i : Nat)] w fun e w' => e = .returned (.bool true) ∧ Still w w' := by
  have hI := ha i hi
  have h0 := is_pos ok hI
  have hr0 := (num_back ok hI).2.2
  obtain ⟨g, cap, ev, ho, hc⟩ := h.h.at (by omega)
  have c2 := h.c2
  rw [ev] at c2
  have e0 := (hc i hiN).1
  rw [show whr M k i = refW M i by unfold whr; rw [if_pos hi]] at e0
  obtain ⟨R, hR⟩ : ∃ R, refW M i = R := ⟨_, rfl⟩
  rw [hR] at hr0 e0 ⊢
  clear h ok ha hI ev ho hc hi hR
  have i1 : (0 : Int) ≤ (i : Nat) := by omega
  have i2 : (i : Int) < (N : Nat) := by omega
  have d1 : ((i : Int) == 0) = false := by simp; omega
  have d2 : ((R : Int) == 0) = false := by simp; omega
  have d3 : ((R : Int) != 0) = true := by simp; omega
  go_enter Tryz.func36, Tryz.ntmps36
  go_wp2_with fail
  all_goals go_ret
  all_goals exact ⟨by simp, by first | exact Still.refl _ | exact (Still.refl _).drew _⟩
end Go.Proofs.YtidfllgaeiopjaaGreat
namespace Go.Proofs.YtidfllgaeiopjaaGreat
open Go.ChangeShapes Go.WideShapes Go.ChangeAt Go.RowKit
set_option linter.unusedVariables false
set_option linter.unusedSimpArgs false
set_option maxRecDepth 100000
set_option maxHeartbeats 1000000


theorem Still.setC {w wr : World} (h : Still w wr) (a : Addr) (v : Value) : Still (w.setCell a v) (wr.setCell a v) := by
  obtain ⟨h1, h2, h3, h4⟩ := h
  refine ⟨h1, h2, h3, ?_⟩
  unfold World.setCell
  rw [h4]
/-- reach, at a small one that is new -/
theorem reach_small {w : World} {px ps gN nN cN rf rr cr cw : Nat} {ar aw : Option Addr} {vS vB : Value} {nS nB gW N cW i R WD : Nat} (fS fB : Nat → Nat)
    (c0 : w.cell? ⟨px, 0, none⟩ = some vS) (c1 : w.cell? ⟨px, 1, none⟩ = some vB) (c2 : w.cell? ⟨px, 2, none⟩ = some (.slice (some ⟨gW, 0, none⟩) N cW)) (c3 : w.cell? ⟨px, 3, none⟩ = some (.int .i64 (WD : Nat)))
    (fz : ∀ o, o < 5 → w.frozen? ⟨px, o, none⟩ = false) (hS : Line w 30 vS nS (fun j => .int .u64 (fS j : Nat))) (hB : Line w 30 vB nB (fun j => .int .u64 (fB j : Nat)))
    (e0 : w.cell? ⟨gW, i, none⟩ = some (.int .u64 (0 : Nat))) (f0 : w.frozen? ⟨gW, i, none⟩ = false)
    (x1 : w.cell? ⟨ps, 1, none⟩ = some (.slice (some ⟨gN, 0, none⟩) nN cN)) (y1 : w.cell? ⟨gN, i * 3 + 1, none⟩ = some (.slice ar rf cr)) (y2 : w.cell? ⟨gN, i * 3 + 2, none⟩ = some (.slice aw rr cw))
    (hi0 : i ≠ 0) (hiN : i < N) (hin : i < nN) (hR : R ≠ 0) (nS' : ∀ j, j < nS → fS j ≠ R) (nB' : ∀ j, j < nB → fB j ≠ R) (hsm : 1 + rf + rr ≤ 64) (lS : nS ≤ 1000000) (lB : nB ≤ 1000000) (lN : N ≤ 1000000) (lW : WD ≤ 100000000)
    (a1 : gW ≠ px) (a2 : vS.ownBlock ≠ some px) (a3 : vS.ownBlock ≠ some gW) (a4 : ps ≠ px) (a5 : ps ≠ gW) (a6 : gN ≠ px) (a7 : gN ≠ gW) :
    Calls Tryz.prog 36 #[.pointer (some ⟨px, 0, none⟩), .pointer (some ⟨ps, 0, none⟩), .int .u64 (R : Nat), .int .i64 (i : Nat)] w fun e w' => e = .returned (.bool true) ∧ ∃ w1 w2 v', Still (w.setCell ⟨gW, i, none⟩ (.int .u64 (R : Nat))) w1 ∧ Line w2 30 v' (nS + 1) (fun j => if j < nS then .int .u64 (fS j : Nat) else .int .u64 (R : Nat)) ∧ Grew 30 nS (.int .u64 (R : Nat)) (w1.alloc (.cells #[.int .u64 (R : Nat)] 30)) w2 vS v' ∧ Still ((w2.setCell ⟨px, 0, none⟩ v').setCell ⟨px, 3, none⟩ (.int .i64 ((WD + (1 + rf + rr) : Nat) : Int))) w' := by
  obtain ⟨i0, hi, hy0, hy1, hy2⟩ := info_parts Tryz.info30
  obtain ⟨aS, cS, rfl⟩ := hS.shape
  obtain ⟨aB, cB, rfl⟩ := hB.shape
  have HS : Hid (∀ j, j < nS → ∃ g, aS = some ⟨g, 0, none⟩ ∧ w.cell? ⟨g, j, none⟩ = some (.int .u64 (fS j : Nat))) := hide (fun j hj => by
    obtain ⟨g, cap', e1, _, hc⟩ := hS.at (by omega)
    cases e1
    exact ⟨g, rfl, (hc j hj).1⟩)
  have HB : Hid (∀ j, j < nB → ∃ g, aB = some ⟨g, 0, none⟩ ∧ w.cell? ⟨g, j, none⟩ = some (.int .u64 (fB j : Nat))) := hide (fun j hj => by
    obtain ⟨g, cap', e1, _, hc⟩ := hB.at (by omega)
    cases e1
    exact ⟨g, rfl, (hc j hj).1⟩)
  have HX : Hid (∀ W, Hid (Still (w.setCell ⟨gW, i, none⟩ (.int .u64 (R : Nat))) W) → W.cell? ⟨ps, 1, none⟩ = some (.slice (some ⟨gN, 0, none⟩) nN cN) ∧ W.cell? ⟨gN, i * 3 + 1, none⟩ = some (.slice ar rf cr) ∧ W.cell? ⟨gN, i * 3 + 2, none⟩ = some (.slice aw rr cw)) := hide (fun W q => by
    have hh : ∀ b o, b ≠ gW → W.cell? ⟨b, o, none⟩ = w.cell? ⟨b, o, none⟩ := fun b o hb => ((unhide q).cell _).trans (World.cell?_setCell_other _ _ _ _ (by intro e; cases e; exact hb rfl))
    exact ⟨(hh _ _ a5).trans x1, (hh _ _ a7).trans y1, (hh _ _ a7).trans y2⟩)
  have HA : Hid (∀ W, Hid (Still (w.setCell ⟨gW, i, none⟩ (.int .u64 (R : Nat))) W) → W.cell? ⟨px, 0, none⟩ = some (.slice aS nS cS) ∧ Hid (Line (W.alloc (.cells #[.int .u64 (R : Nat)] 30)) 30 (.slice aS nS cS) nS (fun j => .int .u64 (fS j : Nat))) ∧ (W.alloc (.cells #[.int .u64 (R : Nat)] 30)).cell? ⟨px, 0, none⟩ = some (.slice aS nS cS) ∧ Hid ((W.alloc (.cells #[.int .u64 (R : Nat)] 30)).cell? ⟨W.heap.size, 0, none⟩ = some (.int .u64 (R : Nat))) ∧
      Hid (∀ v' w', Grew 30 nS (.int .u64 (R : Nat)) (W.alloc (.cells #[.int .u64 (R : Nat)] 30)) w' (.slice aS nS cS) v' → w'.cell? ⟨px, 0, none⟩ = some (.slice aS nS cS) ∧ w'.frozen? ⟨px, 0, none⟩ = false ∧ (w'.setCell ⟨px, 0, none⟩ v').cell? ⟨px, 0, none⟩ = some v' ∧ (w'.setCell ⟨px, 0, none⟩ v').cell? ⟨px, 3, none⟩ = some (.int .i64 (WD : Nat)) ∧ (w'.setCell ⟨px, 0, none⟩ v').frozen? ⟨px, 3, none⟩ = false)) := hide (fun W q => by
    have hq := unhide q
    have hpx : px < W.heap.size := by
      have h1 := block_lt_of_cell c0
      rw [hq.heap, World.size_setCell]; exact h1
    have hx : ∀ o, W.cell? ⟨px, o, none⟩ = w.cell? ⟨px, o, none⟩ := fun o => (hq.cell _).trans (World.cell?_setCell_other _ _ _ _ (by intro e; cases e; exact a1 rfl))
    have hf : ∀ o, W.frozen? ⟨px, o, none⟩ = w.frozen? ⟨px, o, none⟩ := fun o => by
      have : W.frozen? ⟨px, o, none⟩ = (w.setCell ⟨gW, i, none⟩ (.int .u64 (R : Nat))).frozen? ⟨px, o, none⟩ := by simp only [World.frozen?, hq.heap]
      rw [this, World.frozen?_setCell]
    have hbA : Below W.heap.size W (W.alloc (.cells #[.int .u64 (R : Nat)] 30)) := (Below.refl _ _).alloc (Nat.le_refl _) _
    have hL : Line W 30 (.slice aS nS cS) nS (fun j => .int .u64 (fS j : Nat)) := hS.same fun g hg => by
      rw [hq.heap, setCell_else _ _ _ _ _ (by rintro rfl; exact a3 hg)]
    refine ⟨(hx 0).trans c0, hide (hL.same fun g hg => hbA.block g (hL.lt g hg)), (hbA.cell (p := ⟨px, 0, none⟩) hpx).trans ((hx 0).trans c0), hide (cell_made rfl _ _), hide (fun v' w' h2 => ?_)⟩
    have hb : w'.heap[px]? = W.heap[px]? := (h2.other px (Nat.lt_of_lt_of_le hpx hbA.size) a2).trans (hbA.block px hpx)
    have hc : ∀ o, w'.cell? ⟨px, o, none⟩ = w.cell? ⟨px, o, none⟩ := fun o => by rw [← hx o]; simp only [World.cell?, hb]
    have hg : ∀ o, w'.frozen? ⟨px, o, none⟩ = w.frozen? ⟨px, o, none⟩ := fun o => by rw [← hf o]; simp only [World.frozen?, hb]
    refine ⟨(hc 0).trans c0, (hg 0).trans (fz 0 (by decide)), World.cell?_setCell_same' w' ⟨px, 0, none⟩ _ (by rw [hc 0, c0]; rfl), (World.cell?_setCell_other _ _ _ _ (by intro e; cases e)).trans ((hc 3).trans c3), ?_⟩
    rw [World.frozen?_setCell]; exact (hg 3).trans (fz 3 (by decide)))
  have i1 : (0 : Int) ≤ (i : Nat) := by omega
  have i2 : (i : Int) < (N : Nat) := by omega
  have i3 : (i : Int) < (nN : Nat) := by omega
  have d1 : ((i : Int) == 0) = false := by simp; omega
  have d2 : ((R : Int) == 0) = false := by simp; omega
  have NS := hide nS'
  have NB := hide nB'
  have HFz := hide fz
  have HLS := hide hS
  clear nS' nB' fz hS hB
  go_enter Tryz.func36, Tryz.ntmps36
  go_wp2_with fail
  go_loopw [9] (fun iv wr => ∃ j : Nat, iv = .int .i64 (j : Nat) ∧ j ≤ nS ∧ Still w wr) (fun iv _ => nS - (intOf iv).toNat)
  case atStart => exact ⟨0, rfl, Nat.zero_le _, Still.refl _⟩
  case round =>
    obtain ⟨j, rfl, hj, hk⟩ := hrel
    have w1 : IntKind.i64.wrap ((j : Int) + 1) = (j : Int) + 1 := wrap_small _ (by omega) (by omega)
    have HK := hide hk
    have c0' := (hk.cell _).trans c0
    by_cases hjn : j < nS
    · obtain ⟨g, rfl, q0⟩ := unhide HS j hjn
      have q0' := (hk.cell _).trans q0
      have dl : decide ((j : Int) < (nS : Nat)) = true := decide_eq_true (by omega)
      have j1 : (0 : Int) ≤ (j : Nat) := by omega
      have j2 : (j : Int) < (nS : Nat) := by omega
      have hne := unhide NS j hjn
      have dn : ((fS j : Int) == (R : Nat)) = false := by simp; omega
      have dn' : ((fS j : Int) = (R : Nat)) = False := by simpa using dn
      clear hk c0 q0 c1 c2 c3 e0 x1 y1 y2
      go_wp2_with fail
      all_goals go_roundw
      all_goals first | exact ⟨j + 1, by simp, by omega, unhide HK⟩ | (simp [intOf]; omega)
    · have dl : decide ((j : Int) < (nS : Nat)) = false := decide_eq_false (by omega)
      go_wp2_with fail
      clear c0' dl w1 hj hjn
      go_loopw [10] (fun iv ws => ∃ q : Nat, iv = .int .i64 (q : Nat) ∧ q ≤ nB ∧ Hid (Still w ws)) (fun iv _ => nB - (intOf iv).toNat)
      case atStart => exact ⟨0, rfl, Nat.zero_le _, HK⟩
      case round =>
        obtain ⟨q, rfl, hq, HQ⟩ := hrel
        clear hk HK
        have hk := unhide HQ
        have w1 : IntKind.i64.wrap ((q : Int) + 1) = (q : Int) + 1 := wrap_small _ (by omega) (by omega)
        have c1' := (hk.cell _).trans c1
        by_cases hjn : q < nB
        · obtain ⟨g, rfl, q0⟩ := unhide HB q hjn
          have q0' := (hk.cell _).trans q0
          have dl : decide ((q : Int) < (nB : Nat)) = true := decide_eq_true (by omega)
          have j1 : (0 : Int) ≤ (q : Nat) := by omega
          have j2 : (q : Int) < (nB : Nat) := by omega
          have hne := unhide NB q hjn
          have dn : ((fB q : Int) == (R : Nat)) = false := by simp; omega
          have dn' : ((fB q : Int) = (R : Nat)) = False := by simpa using dn
          clear hk c0 q0 c1 c2 c3 e0 x1 y1 y2
          go_wp2_with fail
          all_goals go_roundw
          all_goals first | exact ⟨q + 1, by simp, by omega, HQ⟩ | (simp [intOf]; omega)
        · have dl : decide ((q : Int) < (nB : Nat)) = false := decide_eq_false (by omega)
          have c2' := (hk.cell _).trans c2
          have e0' := (hk.cell _).trans e0
          have f0' : wr.frozen? ⟨gW, i, none⟩ = false := by rw [← f0]; simp only [World.frozen?, hk.heap]
          clear hk c0 c1 c2 c3 e0 x1 y1 y2 f0
          have HW1 : Hid (Still (w.setCell ⟨gW, i, none⟩ (.int .u64 (R : Nat))) (wr.setCell ⟨gW, i, none⟩ (.int .u64 (R : Nat)))) := hide ((unhide HQ).setC _ _)
          go_wp2_with fail
          generalize hW1 : World.setCell wr _ _ = W1 at *
          clear hW1 e0' f0' c1' c2'
          obtain ⟨x1, y1, y2⟩ := unhide HX _ HW1
          have a1 : IntKind.i64.wrap (1 + (rf : Int)) = 1 + (rf : Int) := wrap_small _ (by omega) (by omega)
          have a2 : IntKind.i64.wrap (1 + (rf : Int) + (rr : Int)) = 1 + (rf : Int) + (rr : Int) := wrap_small _ (by omega) (by omega)
          have d3 : decide (1 + (rf : Int) + (rr : Int) ≤ 64) = true := decide_eq_true (by omega)
          go_region_held3 (fun w' => w'.cell? ⟨ps, 1, none⟩ = some (.slice (some ⟨gN, 0, none⟩) nN cN) ∧ w'.cell? ⟨gN, i * 3 + 1, none⟩ = some (.slice ar rf cr) ∧ w'.cell? ⟨gN, i * 3 + 2, none⟩ = some (.slice aw rr cw)) (go_keep) (fail)
          clear x1 y1 y2
          have HW2 : Hid (Still (w.setCell ⟨gW, i, none⟩ (.int .u64 (R : Nat))) W1.drew) := hide ((unhide HW1).trans ((Still.refl W1).drew 1))
          obtain ⟨z0, z1, z2, z3, z4⟩ := unhide HA _ HW2
          generalize W1.drew = W2 at *
          clear HA HX HLS HFz HS HB NS NB HQ
          have b1 : IntKind.i64.wrap ((WD : Int) + (1 + (rf : Int) + (rr : Int))) = (WD : Int) + (1 + (rf : Int) + (rr : Int)) := wrap_small _ (by omega) (by omega)
          go_wp2_with (refine append_line rfl (.tmp 110) (.tmp 112) 44 rfl 30 i0 (.int .u64 0) 8 Tryz.underlying44 hi hy0 hy1 hy2 rfl (.slice aS nS cS) nS _ (by simp [Act.eval]) (unhide z1) W2.heap.size (by simp [Act.eval]) (.int .u64 (R : Nat)) (unhide z3) rfl (by omega) (by omega) ?_)
          intro v9 w9 hl9 hg9
          obtain ⟨k1, k2, k3, k4, k5⟩ := unhide z4 _ _ hg9
          obtain ⟨a9, c9, rfl⟩ := hl9.shape
          have HL9 := hide hl9
          have HG9 := hide hg9
          clear hl9 hg9 z1 z3 z4 z0 z2
          go_wp2_with fail
          all_goals go_ret
          all_goals exact ⟨by simp, _, _, _, unhide HW2, unhide HL9, unhide HG9, by first | exact Still.refl _ | exact (Still.refl _).drew _⟩
/-- reach, at a large one that is new -/
theorem reach_big {w : World} {px ps gN nN cN rf rr cr cw : Nat} {ar aw : Option Addr} {vS vB : Value} {nS nB gW N cW i R WD : Nat} (fS fB : Nat → Nat)
    (c0 : w.cell? ⟨px, 0, none⟩ = some vS) (c1 : w.cell? ⟨px, 1, none⟩ = some vB) (c2 : w.cell? ⟨px, 2, none⟩ = some (.slice (some ⟨gW, 0, none⟩) N cW)) (c3 : w.cell? ⟨px, 4, none⟩ = some (.int .i64 (WD : Nat)))
    (fz : ∀ o, o < 5 → w.frozen? ⟨px, o, none⟩ = false) (hS : Line w 30 vS nS (fun j => .int .u64 (fS j : Nat))) (hB : Line w 30 vB nB (fun j => .int .u64 (fB j : Nat)))
    (e0 : w.cell? ⟨gW, i, none⟩ = some (.int .u64 (0 : Nat))) (f0 : w.frozen? ⟨gW, i, none⟩ = false)
    (x1 : w.cell? ⟨ps, 1, none⟩ = some (.slice (some ⟨gN, 0, none⟩) nN cN)) (y1 : w.cell? ⟨gN, i * 3 + 1, none⟩ = some (.slice ar rf cr)) (y2 : w.cell? ⟨gN, i * 3 + 2, none⟩ = some (.slice aw rr cw))
    (hi0 : i ≠ 0) (hiN : i < N) (hin : i < nN) (hR : R ≠ 0) (nS' : ∀ j, j < nS → fS j ≠ R) (nB' : ∀ j, j < nB → fB j ≠ R) (hsm : 64 < 1 + rf + rr) (hsm2 : 1 + rf + rr ≤ 100000000) (lS : nS ≤ 1000000) (lB : nB ≤ 1000000) (lN : N ≤ 1000000) (lW : WD ≤ 100000000)
    (a1 : gW ≠ px) (a2 : vB.ownBlock ≠ some px) (a3 : vB.ownBlock ≠ some gW) (a4 : ps ≠ px) (a5 : ps ≠ gW) (a6 : gN ≠ px) (a7 : gN ≠ gW) :
    Calls Tryz.prog 36 #[.pointer (some ⟨px, 0, none⟩), .pointer (some ⟨ps, 0, none⟩), .int .u64 (R : Nat), .int .i64 (i : Nat)] w fun e w' => e = .returned (.bool true) ∧ ∃ w1 w2 v', Still (w.setCell ⟨gW, i, none⟩ (.int .u64 (R : Nat))) w1 ∧ Line w2 30 v' (nB + 1) (fun j => if j < nB then .int .u64 (fB j : Nat) else .int .u64 (R : Nat)) ∧ Grew 30 nB (.int .u64 (R : Nat)) (w1.alloc (.cells #[.int .u64 (R : Nat)] 30)) w2 vB v' ∧ Still ((w2.setCell ⟨px, 1, none⟩ v').setCell ⟨px, 4, none⟩ (.int .i64 ((WD + (1 + rf + rr) + 1 : Nat) : Int))) w' := by
  obtain ⟨i0, hi, hy0, hy1, hy2⟩ := info_parts Tryz.info30
  obtain ⟨aS, cS, rfl⟩ := hS.shape
  obtain ⟨aB, cB, rfl⟩ := hB.shape
  have HS : Hid (∀ j, j < nS → ∃ g, aS = some ⟨g, 0, none⟩ ∧ w.cell? ⟨g, j, none⟩ = some (.int .u64 (fS j : Nat))) := hide (fun j hj => by
    obtain ⟨g, cap', e1, _, hc⟩ := hS.at (by omega)
    cases e1
    exact ⟨g, rfl, (hc j hj).1⟩)
  have HB : Hid (∀ j, j < nB → ∃ g, aB = some ⟨g, 0, none⟩ ∧ w.cell? ⟨g, j, none⟩ = some (.int .u64 (fB j : Nat))) := hide (fun j hj => by
    obtain ⟨g, cap', e1, _, hc⟩ := hB.at (by omega)
    cases e1
    exact ⟨g, rfl, (hc j hj).1⟩)
  have HX : Hid (∀ W, Hid (Still (w.setCell ⟨gW, i, none⟩ (.int .u64 (R : Nat))) W) → W.cell? ⟨ps, 1, none⟩ = some (.slice (some ⟨gN, 0, none⟩) nN cN) ∧ W.cell? ⟨gN, i * 3 + 1, none⟩ = some (.slice ar rf cr) ∧ W.cell? ⟨gN, i * 3 + 2, none⟩ = some (.slice aw rr cw)) := hide (fun W q => by
    have hh : ∀ b o, b ≠ gW → W.cell? ⟨b, o, none⟩ = w.cell? ⟨b, o, none⟩ := fun b o hb => ((unhide q).cell _).trans (World.cell?_setCell_other _ _ _ _ (by intro e; cases e; exact hb rfl))
    exact ⟨(hh _ _ a5).trans x1, (hh _ _ a7).trans y1, (hh _ _ a7).trans y2⟩)
  have HA : Hid (∀ W, Hid (Still (w.setCell ⟨gW, i, none⟩ (.int .u64 (R : Nat))) W) → W.cell? ⟨px, 1, none⟩ = some (.slice aB nB cB) ∧ Hid (Line (W.alloc (.cells #[.int .u64 (R : Nat)] 30)) 30 (.slice aB nB cB) nB (fun j => .int .u64 (fB j : Nat))) ∧ (W.alloc (.cells #[.int .u64 (R : Nat)] 30)).cell? ⟨px, 1, none⟩ = some (.slice aB nB cB) ∧ Hid ((W.alloc (.cells #[.int .u64 (R : Nat)] 30)).cell? ⟨W.heap.size, 0, none⟩ = some (.int .u64 (R : Nat))) ∧
      Hid (∀ v' w', Grew 30 nB (.int .u64 (R : Nat)) (W.alloc (.cells #[.int .u64 (R : Nat)] 30)) w' (.slice aB nB cB) v' → w'.cell? ⟨px, 1, none⟩ = some (.slice aB nB cB) ∧ w'.frozen? ⟨px, 1, none⟩ = false ∧ (w'.setCell ⟨px, 1, none⟩ v').cell? ⟨px, 1, none⟩ = some v' ∧ (w'.setCell ⟨px, 1, none⟩ v').cell? ⟨px, 4, none⟩ = some (.int .i64 (WD : Nat)) ∧ (w'.setCell ⟨px, 1, none⟩ v').frozen? ⟨px, 4, none⟩ = false)) := hide (fun W q => by
    have hq := unhide q
    have hpx : px < W.heap.size := by
      have h1 := block_lt_of_cell c1
      rw [hq.heap, World.size_setCell]; exact h1
    have hx : ∀ o, W.cell? ⟨px, o, none⟩ = w.cell? ⟨px, o, none⟩ := fun o => (hq.cell _).trans (World.cell?_setCell_other _ _ _ _ (by intro e; cases e; exact a1 rfl))
    have hf : ∀ o, W.frozen? ⟨px, o, none⟩ = w.frozen? ⟨px, o, none⟩ := fun o => by
      have : W.frozen? ⟨px, o, none⟩ = (w.setCell ⟨gW, i, none⟩ (.int .u64 (R : Nat))).frozen? ⟨px, o, none⟩ := by simp only [World.frozen?, hq.heap]
      rw [this, World.frozen?_setCell]
    have hbA : Below W.heap.size W (W.alloc (.cells #[.int .u64 (R : Nat)] 30)) := (Below.refl _ _).alloc (Nat.le_refl _) _
    have hL : Line W 30 (.slice aB nB cB) nB (fun j => .int .u64 (fB j : Nat)) := hB.same fun g hg => by
      rw [hq.heap, setCell_else _ _ _ _ _ (by rintro rfl; exact a3 hg)]
    refine ⟨(hx 1).trans c1, hide (hL.same fun g hg => hbA.block g (hL.lt g hg)), (hbA.cell (p := ⟨px, 1, none⟩) hpx).trans ((hx 1).trans c1), hide (cell_made rfl _ _), hide (fun v' w' h2 => ?_)⟩
    have hb : w'.heap[px]? = W.heap[px]? := (h2.other px (Nat.lt_of_lt_of_le hpx hbA.size) a2).trans (hbA.block px hpx)
    have hc : ∀ o, w'.cell? ⟨px, o, none⟩ = w.cell? ⟨px, o, none⟩ := fun o => by rw [← hx o]; simp only [World.cell?, hb]
    have hg : ∀ o, w'.frozen? ⟨px, o, none⟩ = w.frozen? ⟨px, o, none⟩ := fun o => by rw [← hf o]; simp only [World.frozen?, hb]
    refine ⟨(hc 1).trans c1, (hg 1).trans (fz 1 (by decide)), World.cell?_setCell_same' w' ⟨px, 1, none⟩ _ (by rw [hc 1, c1]; rfl), (World.cell?_setCell_other _ _ _ _ (by intro e; cases e)).trans ((hc 4).trans c3), ?_⟩
    rw [World.frozen?_setCell]; exact (hg 4).trans (fz 4 (by decide)))
  have i1 : (0 : Int) ≤ (i : Nat) := by omega
  have i2 : (i : Int) < (N : Nat) := by omega
  have i3 : (i : Int) < (nN : Nat) := by omega
  have d1 : ((i : Int) == 0) = false := by simp; omega
  have d2 : ((R : Int) == 0) = false := by simp; omega
  have NS := hide nS'
  have NB := hide nB'
  have HFz := hide fz
  have HLS := hide hS
  clear nS' nB' fz hS hB
  go_enter Tryz.func36, Tryz.ntmps36
  go_wp2_with fail
  go_loopw [9] (fun iv wr => ∃ j : Nat, iv = .int .i64 (j : Nat) ∧ j ≤ nS ∧ Still w wr) (fun iv _ => nS - (intOf iv).toNat)
  case atStart => exact ⟨0, rfl, Nat.zero_le _, Still.refl _⟩
  case round =>
    obtain ⟨j, rfl, hj, hk⟩ := hrel
    have w1 : IntKind.i64.wrap ((j : Int) + 1) = (j : Int) + 1 := wrap_small _ (by omega) (by omega)
    have HK := hide hk
    have c0' := (hk.cell _).trans c0
    by_cases hjn : j < nS
    · obtain ⟨g, rfl, q0⟩ := unhide HS j hjn
      have q0' := (hk.cell _).trans q0
      have dl : decide ((j : Int) < (nS : Nat)) = true := decide_eq_true (by omega)
      have j1 : (0 : Int) ≤ (j : Nat) := by omega
      have j2 : (j : Int) < (nS : Nat) := by omega
      have hne := unhide NS j hjn
      have dn : ((fS j : Int) == (R : Nat)) = false := by simp; omega
      have dn' : ((fS j : Int) = (R : Nat)) = False := by simpa using dn
      clear hk c0 q0 c1 c2 c3 e0 x1 y1 y2
      go_wp2_with fail
      all_goals go_roundw
      all_goals first | exact ⟨j + 1, by simp, by omega, unhide HK⟩ | (simp [intOf]; omega)
    · have dl : decide ((j : Int) < (nS : Nat)) = false := decide_eq_false (by omega)
      go_wp2_with fail
      clear c0' dl w1 hj hjn
      go_loopw [10] (fun iv ws => ∃ q : Nat, iv = .int .i64 (q : Nat) ∧ q ≤ nB ∧ Hid (Still w ws)) (fun iv _ => nB - (intOf iv).toNat)
      case atStart => exact ⟨0, rfl, Nat.zero_le _, HK⟩
      case round =>
        obtain ⟨q, rfl, hq, HQ⟩ := hrel
        clear hk HK
        have hk := unhide HQ
        have w1 : IntKind.i64.wrap ((q : Int) + 1) = (q : Int) + 1 := wrap_small _ (by omega) (by omega)
        have c1' := (hk.cell _).trans c1
        by_cases hjn : q < nB
        · obtain ⟨g, rfl, q0⟩ := unhide HB q hjn
          have q0' := (hk.cell _).trans q0
          have dl : decide ((q : Int) < (nB : Nat)) = true := decide_eq_true (by omega)
          have j1 : (0 : Int) ≤ (q : Nat) := by omega
          have j2 : (q : Int) < (nB : Nat) := by omega
          have hne := unhide NB q hjn
          have dn : ((fB q : Int) == (R : Nat)) = false := by simp; omega
          have dn' : ((fB q : Int) = (R : Nat)) = False := by simpa using dn
          clear hk c0 q0 c1 c2 c3 e0 x1 y1 y2
          go_wp2_with fail
          all_goals go_roundw
          all_goals first | exact ⟨q + 1, by simp, by omega, HQ⟩ | (simp [intOf]; omega)
        · have dl : decide ((q : Int) < (nB : Nat)) = false := decide_eq_false (by omega)
          have c2' := (hk.cell _).trans c2
          have e0' := (hk.cell _).trans e0
          have f0' : wr.frozen? ⟨gW, i, none⟩ = false := by rw [← f0]; simp only [World.frozen?, hk.heap]
          clear hk c0 c1 c2 c3 e0 x1 y1 y2 f0
          have HW1 : Hid (Still (w.setCell ⟨gW, i, none⟩ (.int .u64 (R : Nat))) (wr.setCell ⟨gW, i, none⟩ (.int .u64 (R : Nat)))) := hide ((unhide HQ).setC _ _)
          go_wp2_with fail
          generalize hW1 : World.setCell wr _ _ = W1 at *
          clear hW1 e0' f0' c1' c2'
          obtain ⟨x1, y1, y2⟩ := unhide HX _ HW1
          have a1 : IntKind.i64.wrap (1 + (rf : Int)) = 1 + (rf : Int) := wrap_small _ (by omega) (by omega)
          have a2 : IntKind.i64.wrap (1 + (rf : Int) + (rr : Int)) = 1 + (rf : Int) + (rr : Int) := wrap_small _ (by omega) (by omega)
          have d3 : decide (1 + (rf : Int) + (rr : Int) ≤ 64) = false := decide_eq_false (by omega)
          go_region_held3 (fun w' => w'.cell? ⟨ps, 1, none⟩ = some (.slice (some ⟨gN, 0, none⟩) nN cN) ∧ w'.cell? ⟨gN, i * 3 + 1, none⟩ = some (.slice ar rf cr) ∧ w'.cell? ⟨gN, i * 3 + 2, none⟩ = some (.slice aw rr cw)) (go_keep) (fail)
          clear x1 y1 y2
          have HW2 : Hid (Still (w.setCell ⟨gW, i, none⟩ (.int .u64 (R : Nat))) W1.drew) := hide ((unhide HW1).trans ((Still.refl W1).drew 1))
          obtain ⟨z0, z1, z2, z3, z4⟩ := unhide HA _ HW2
          generalize W1.drew = W2 at *
          clear HA HX HLS HFz HS HB NS NB HQ
          have b1 : IntKind.i64.wrap ((WD : Int) + (1 + (rf : Int) + (rr : Int))) = (WD : Int) + (1 + (rf : Int) + (rr : Int)) := wrap_small _ (by omega) (by omega)
          have b2 : IntKind.i64.wrap ((WD : Int) + (1 + (rf : Int) + (rr : Int)) + 1) = (WD : Int) + (1 + (rf : Int) + (rr : Int)) + 1 := wrap_small _ (by omega) (by omega)
          go_wp2_with (refine append_line rfl (.tmp 129) (.tmp 131) 44 rfl 30 i0 (.int .u64 0) 8 Tryz.underlying44 hi hy0 hy1 hy2 rfl (.slice aB nB cB) nB _ (by simp [Act.eval]) (unhide z1) W2.heap.size (by simp [Act.eval]) (.int .u64 (R : Nat)) (unhide z3) rfl (by omega) (by omega) ?_)
          intro v9 w9 hl9 hg9
          obtain ⟨k1, k2, k3, k4, k5⟩ := unhide z4 _ _ hg9
          obtain ⟨a9, c9, rfl⟩ := hl9.shape
          have HL9 := hide hl9
          have HG9 := hide hg9
          clear hl9 hg9 z1 z3 z4 z0 z2
          go_wp2_with fail
          all_goals go_ret
          all_goals exact ⟨by simp, _, _, _, unhide HW2, unhide HL9, unhide HG9, by first | exact Still.refl _ | exact (Still.refl _).drew _⟩
end Go.Proofs.YtidfllgaeiopjaaGreat
