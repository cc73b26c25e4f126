/- step: the walks. -/
import Derived.Test.YtidfllgaeiopjaaGreatShM
import Derived.Test.YtidfllgaeiopjaaGreatWrB
namespace Go.Proofs.YtidfllgaeiopjaaGreat
open Go.ChangeShapes Go.WideShapes Go.ChangeAt Go.RowKit
set_option linter.unusedVariables false
set_option maxRecDepth 100000
set_option maxHeartbeats 1000000

/-- behind a move: both again, at most one step more -/
def After (w0 : Kp) (ps ph limit last n : Nat) (w' : World) : Prop := ∃ tag' st' M' H' ns' C', Both0 w0 w' ps ph tag' st' M' H' ns' limit last C' ∧ Bnd M' (n + 1)

theorem After.below {w0 : Kp} {w W : World} {ps ph : Nat} {tag st : Nat → Nat} {M : Hp} {H : HC} {ns : List (Nat × List Nat × List Nat)} {limit last n : Nat} {C : ShC} (b : Both0 w0 w ps ph tag st M H ns limit last C) (bd : Bnd M n) (k : Below w.heap.size w W) : After w0 ps ph limit last n W :=
  ⟨tag, st, M, H, ns, C, b.below k, bd.same rfl rfl rfl rfl (Nat.le_succ _)⟩
theorem tag_new {w0 : Kp} {w : World} {ps ph : Nat} {tag st : Nat → Nat} {M : Hp} {H : HC} {ns : List (Nat × List Nat × List Nat)} {limit last : Nat} {C : ShC} (b : Both0 w0 w ps ph tag st M H ns limit last C) : tag w.heap.size = 0 := by
  by_cases q : tag w.heap.size = 0
  · exact q
  · exact absurd (b.he.raw.un _ q) (Nat.lt_irrefl _)
theorem box_below (w : World) (x : Obj) (W : World) (k : Below (w.heap.size + 1) (w.alloc x) W) : Below w.heap.size w W ∧ w.heap.size < W.heap.size := by
  have hb : Below w.heap.size w (w.alloc x) := (Below.refl _ _).alloc (Nat.le_refl _) _
  have hs := k.size
  simp at hs
  exact ⟨hb.trans (k.mono (by omega)), by omega⟩
theorem may_ref {M : Hp} (ok : HpOk M) {t : Nat} (h : t = 0 ∨ Is M t) : mayM M (refW M t) = true ∧ numOf M (refW M t) = t ∧ refW M t < 18446744073709551616 := by
  rcases h with rfl | h
  · have : refW M 0 = 0 := if_pos rfl
    rw [this]
    exact ⟨decide_eq_true (.inl rfl), num_zero M, by decide⟩
  · obtain ⟨p1, p2, p3⟩ := num_back ok h
    have h0 : t ≠ 0 := by
      rcases h with h | h
      · exact (ok.s1 t h).1
      · exact h.1
    exact ⟨decide_eq_true (.inr (by rw [p1]; exact h0)), p1, p2⟩
theorem root_is {M : Hp} (ok : HpOk M) {m i : Nat} (hm : m < M.roots.length) (hi : M.roots.getD m none = some i) : i = 0 ∨ Is M i := by
  refine ok.rt i ?_
  rw [List.getD_eq_getElem?_getD, List.getElem?_eq_getElem hm] at hi
  have : M.roots[m] = some i := hi
  rw [← this]; exact List.getElem_mem hm
/-- a field of an object is written on both sides -/
theorem After.put {w0 : Kp} {w W w5 W' : World} {ps ph : Nat} {tag st : Nat → Nat} {M : Hp} {H H' : HC} {ns : List (Nat × List Nat × List Nat)} {limit last n : Nat} {C : ShC} (b : Both0 w0 w ps ph tag st M H ns limit last C) (bd : Bnd M n) {i : Nat} (hd : Held M ns i) (o : Ob) (ho : o.kind = (ob M i).kind) (x : Obj) (kW : Below (w.heap.size + 1) (w.alloc x) W) (h5 : HAt w5 ph tag (putO M i o) H') (f : Fr tag tag W w5)
    (hs : w5.heap.size ≤ W'.heap.size) (hos : W'.os = w5.os ∧ W'.tape = w5.tape ∧ W'.output = w5.output) (hb : ∀ g, g < w5.heap.size → st g ≠ 4 + 2 * i → st g ≠ 5 + 2 * i → W'.heap[g]? = w5.heap[g]?)
    (hR : ShAt w5 ps ph st ns M.roots limit last C → Line W' 3 (C.rf i) o.refs.length (fun k => .int .i64 (o.refs.getD k 0 : Nat))) (hS : ShAt w5 ps ph st ns M.roots limit last C → Line W' 30 (C.rw i) o.raws.length (fun k => .int .u64 (o.raws.getD k 0 : Nat))) : After w0 ps ph limit last n W' := by
  obtain ⟨k1, k2⟩ := box_below w x W kW
  have bW := b.below k1
  have hkeep : ∀ g, st g ≠ 0 → w5.heap[g]? = W.heap[g]? := fun g e => (f.blk g (bW.sh.un g e) (b.ap g e)).1
  have s5 : ShAt w5 ps ph st ns M.roots limit last C := bW.sh.same f.size hkeep
  have s6 := s5.rewrite i hd.ln o.refs o.raws hs (fun g e h1 h2 => hb g (s5.un g e) h1 h2) (hR s5) (hS s5)
  have g6 := b.gr.put i o (b.he.wf.ln i hd.is)
  have e6 : ((ns.getD i (0, [], [])).1, o.refs, o.raws) = dat o := by rw [hd.dt]; unfold dat; rw [ho]
  rw [e6] at s6
  have o1 : OwnK w0 w5 tag := bW.o1.fr f
  refine ⟨tag, st, putO M i o, H', _, C, .mk2 h5 o1 ⟨o1.be, b.o2.tg, o1.kp⟩ b.ap b.li ⟨hos.1, hos.2.1, hos.2.2, hs, fun g hg e => ⟨hb g hg (by omega) (by omega), e⟩⟩ s6 g6, bd.same ?_ rfl rfl rfl (Nat.le_succ _)⟩
  show (M.objs.set i o).length = _
  rw [List.length_set]
theorem getD_setL (l : List Nat) (k t j : Nat) (hk : k < l.length) : (l.set k t).getD j 0 = if j = k then t else l.getD j 0 := getD_set0 l k j t hk

theorem link_any {w0 : Kp} {w : World} {ps ph : Nat} {tag st : Nat → Nat} {M : Hp} {H : HC} {ns : List (Nat × List Nat × List Nat)} {limit last : Nat} {C : ShC} (b : Both0 w0 w ps ph tag st M H ns limit last C) {n : Nat} (bd : Bnd M n) (hn : n ≤ 10000) (A B Cc hh gg : Int) (vv : Nat) (dv : Value) {m i : Nat} (e1 : handN M.roots.length hh = (m : Nat) + 1) (hm : m < M.roots.length) (hri : M.roots.getD m none = some i) (h1 : 1 ≤ i) (e2 : heldV M.roots (handN M.roots.length hh) = (i : Nat)) :
    Calls Tryz.prog 32 #[.pointer (some ⟨ps, 0, none⟩), mvV 2 A B Cc hh gg vv dv] w fun e w' => e = .returned (.bool true) ∧ After w0 ps ph limit last n w' := by
  have hd := b.held hm hri h1
  obtain ⟨gN, cN, ar, cr, aw, cw, tN, c1, er, ew, n1, n2⟩ := b.sh.nodeAt hd.ln
  have r64 := b.he.raw64 hd.is
  have hrt := bd.rt
  have hob := bd.ob
  have hnl : ns.length ≤ 1000000 := by rw [b.gr.ln]; omega
  have hbW : ∀ W, Below (w.heap.size + 1) (w.alloc (mvB 2 A B Cc hh gg vv dv)) W → Both0 w0 W ps ph tag st M H ns limit last C := fun W k => b.below (box_below w _ W k).1
  have H30 : ∀ h W, Below (w.heap.size + 1) (w.alloc (mvB 2 A B Cc hh gg vv dv)) W → Calls Tryz.prog 30 #[.pointer (some ⟨ps, 0, none⟩), .int .i64 h] W fun e w' => e = .returned (.int .i64 (handN M.roots.length h)) ∧ Still W w' := fun h W k => hand_any (hbW W k).sh (by omega) h
  have H33 : ∀ x W, Below (w.heap.size + 1) (w.alloc (mvB 2 A B Cc hh gg vv dv)) W → Calls Tryz.prog 33 #[.pointer (some ⟨ps, 0, none⟩), .int .i64 x] W fun e w' => e = .returned (.int .i64 (heldV M.roots x)) ∧ Still W w' := fun x W k => held_any (hbW W k).sh (by omega) x
  have H33i := H33 (handN M.roots.length hh)
  rw [e2] at H33i
  have H28 : ∀ W, Below (w.heap.size + 1) (w.alloc (mvB 2 A B Cc hh gg vv dv)) W → Calls Tryz.prog 28 #[.pointer (some ⟨ph, 0, none⟩), .int .i64 (handN M.roots.length hh)] W fun e w' => e = .returned (.tuple #[.int .u64 (refW M i : Nat), .int .i64 0]) ∧ Below W.heap.size W w' := fun W k => by
    rw [e1]; exact at_held (hbW W k).he (by omega) hm hri
  have hlr : (ns.getD i (0, [], [])).2.1 = (ob M i).refs := by rw [hd.dt]; rfl
  have hlw : (ns.getD i (0, [], [])).2.2 = (ob M i).raws := by rw [hd.dt]; rfl
  rw [hlr] at er n1
  rw [hlw] at ew n2
  have hLr := b.sh.rf i hd.ln
  have hLw := b.sh.rw i hd.ln
  rw [hlr] at hLr
  rw [hlw] at hLw
  have no0 : ∀ tn : Int, heldV M.roots (handN M.roots.length gg) = tn → ((ob M i).refs.length = 0 ∨ tn < 0) → Calls Tryz.prog 32 #[.pointer (some ⟨ps, 0, none⟩), mvV 2 A B Cc hh gg vv dv] w fun e w' => e = .returned (.bool true) ∧ After w0 ps ph limit last n w' := fun tn et hno =>
    changes_link0 A B Cc hh gg vv dv b.sh.c0 c1 hd.ln hnl h1 n1 n2 r64.2.1 r64.2.2 (H30 hh) H33i H28 (H30 gg) (by have := H33 (handN M.roots.length gg); rw [et] at this; exact this) hno (fun W k => After.below b bd k)
  by_cases hr0 : (ob M i).refs.length = 0
  · exact no0 _ rfl (.inl hr0)
  · rcases held_cases M.roots (handN M.roots.length gg) with hx | ⟨m', t, f1, hm', hrt', f2⟩
    · exact no0 _ hx (.inr (by decide))
    · obtain ⟨k, hk⟩ : ∃ k : Nat, A % ((ob M i).refs.length : Nat) = (k : Nat) := ⟨(A % ((ob M i).refs.length : Nat)).toNat, by have := Int.emod_nonneg A (b := ((ob M i).refs.length : Nat)) (by omega); omega⟩
      have hkl : k < (ob M i).refs.length := by have := Int.emod_lt_of_pos A (b := ((ob M i).refs.length : Nat)) (by omega); omega
      obtain ⟨ga, cg, hva, hoa, hca⟩ := hLr.at (by omega)
      have ta := b.sh.t4 i ga hd.ln hoa
      obtain ⟨q1, q2, q3⟩ := may_ref b.he.wf.ok (root_is b.he.wf.ok hm' hrt')
      have hset : setM M (refW M i) (k : Nat) (refW M t) = (putO M i (setO M i k (refW M t)), 0) := by
        unfold setM
        rw [hd.nb, if_neg (by omega), if_neg (fun q => by rw [q1] at q; cases q.2.2), if_pos ⟨by omega, by unfold fldM; rw [List.length_append, List.length_map]; omega⟩]
        rfl
      have hoO : setO M i k (refW M t) = { ob M i with refs := (ob M i).refs.set k t } := by unfold setO; rw [if_pos hkl, q2]
      have hst0 : ∀ g, st g ≠ 0 → tag g = 0 := b.ap
      refine changes_link A B Cc hh gg vv dv (tn' := t) (v := refW M t) (k := k) (ga := ga) (G := fun w5 => ∃ H' W, Below (w.heap.size + 1) (w.alloc (mvB 2 A B Cc hh gg vv dv)) W ∧ HAt w5 ph tag (putO M i (setO M i k (refW M t))) H' ∧ Fr tag tag W w5) b.sh.c0 c1 hd.ln hnl h1 n1 n2 r64.2.1 r64.2.2 (H30 hh) H33i H28 (H30 gg) (by have := H33 (handN M.roots.length gg); rw [f2] at this; exact this) (by omega) rfl (by rw [er] at hva; injection hva) hkl (hca k hkl).1 (hca k hkl).2 (by rintro rfl; rw [b.sh.t1] at ta; omega) (by rintro rfl; rw [tN] at ta; omega) (fun W kk => by rw [f1]; exact at_held (hbW W kk).he (by omega) hm' hrt') (fun W => by rw [← hk]; exact round_any A _ (by omega) (by have := r64.2.1; omega)) (fun W kk => ?_) (fun w5 hg W' hst => ?_)
      · refine (hset_any (hbW W kk).he (refW M i) hd.lt (k : Nat) (refW M t) q3).mono ?_
        rintro e w' ⟨rfl, H', h5, f⟩
        rw [hset] at h5 ⊢
        have hz := (box_below w _ W kk).2
        have hg' : ∀ g, st g ≠ 0 → w'.heap[g]? = W.heap[g]? := fun g e => (f.blk g ((hbW W kk).sh.un g e) (b.ap g e)).1
        exact ⟨rfl, hg' ps (by rw [b.sh.t1]; decide), hg' gN (by rw [tN]; decide), (f.blk _ hz (tag_new b)).1, hg' ga (by rw [ta]; omega), H', W, kk, h5, f⟩
      · obtain ⟨H', W, kW, h5, f⟩ := hg
        rw [hoO] at h5
        have hzz : (w5.setCell ⟨ga, k, none⟩ (.int .i64 (t : Nat))).heap.size = w5.heap.size := World.size_setCell _ _ _
        refine After.put b bd hd _ (by rfl) _ kW h5 f (by rw [hst.heap, hzz]; exact Nat.le_refl _) ⟨hst.os, hst.tape, hst.output⟩ (fun g hg h4 h5' => by rw [hst.heap]; exact setCell_else _ _ _ _ _ (by rintro rfl; exact h4 ta)) (fun s5 => ?_) (fun s5 => ?_)
        · have hL := s5.rf i hd.ln
          rw [hlr] at hL
          have := (hL.put hoa k (.int .i64 (t : Nat)) hkl).same (w' := W') (fun g _ => by rw [hst.heap])
          show Line W' 3 (C.rf i) ((ob M i).refs.set k t).length _
          rw [List.length_set]
          refine this.congr fun j hj => ?_
          show _ = Value.int .i64 (((ob M i).refs.set k t).getD j 0 : Nat)
          rw [getD_setL _ _ _ _ hkl]
          by_cases e : j = k
          · rw [if_pos e, if_pos e]
          · rw [if_neg e, if_neg e]
        · have hL := s5.rw i hd.ln
          rw [hlw] at hL
          exact hL.same fun g e => by rw [hst.heap]; exact setCell_else _ _ _ _ _ (by rintro rfl; have := b.sh.t5 i g hd.ln e; omega)
end Go.Proofs.YtidfllgaeiopjaaGreat
namespace Go.Proofs.YtidfllgaeiopjaaGreat
open Go.ChangeShapes Go.WideShapes Go.ChangeAt Go.RowKit
set_option linter.unusedVariables false
set_option maxRecDepth 100000
set_option maxHeartbeats 1000000

theorem write_any {w0 : Kp} {w : World} {ps ph : Nat} {tag st : Nat → Nat} {M : Hp} {H : HC} {ns : List (Nat × List Nat × List Nat)} {limit last : Nat} {C : ShC} (b : Both0 w0 w ps ph tag st M H ns limit last C) {n : Nat} (bd : Bnd M n) (hn : n ≤ 10000) (A B Cc hh gg : Int) (vv : Nat) (da : Option Addr) (dc : Nat) (d : List Nat) (hA1 : -9223372036854775808 ≤ A) (hA2 : A ≤ 9223372036854775807) (hdl : d.length ≤ 140737488355328) (hds : Small d) (hdB : Bytes w0.w da d) (hnil : da = none → dc = 0) {m i : Nat} (e1 : handN M.roots.length hh = (m : Nat) + 1) (hm : m < M.roots.length) (hri : M.roots.getD m none = some i) (h1 : 1 ≤ i) (e2 : heldV M.roots (handN M.roots.length hh) = (i : Nat)) :
    Calls Tryz.prog 32 #[.pointer (some ⟨ps, 0, none⟩), mvV 4 A B Cc hh gg  vv (.slice da d.length dc)] w fun e w' => e = .returned (.bool true) ∧ After w0 ps ph limit last n w' := by
  have hd := b.held hm hri h1
  obtain ⟨gN, cN, ar, cr, aw, cw, tN, c1, er, ew, n1, n2⟩ := b.sh.nodeAt hd.ln
  have r64 := b.he.raw64 hd.is
  have hrt := bd.rt
  have hob := bd.ob
  have hnl : ns.length ≤ 1000000 := by rw [b.gr.ln]; omega
  have hbW : ∀ W, Below (w.heap.size + 1) (w.alloc (mvB 4 A B Cc hh gg  vv (.slice da d.length dc))) W → Both0 w0 W ps ph tag st M H ns limit last C := fun W k => b.below (box_below w _ W k).1
  have H30 : ∀ h W, Below (w.heap.size + 1) (w.alloc (mvB 4 A B Cc hh gg  vv (.slice da d.length dc))) W → Calls Tryz.prog 30 #[.pointer (some ⟨ps, 0, none⟩), .int .i64 h] W fun e w' => e = .returned (.int .i64 (handN M.roots.length h)) ∧ Still W w' := fun h W k => hand_any (hbW W k).sh (by omega) h
  have H33 : ∀ x W, Below (w.heap.size + 1) (w.alloc (mvB 4 A B Cc hh gg  vv (.slice da d.length dc))) W → Calls Tryz.prog 33 #[.pointer (some ⟨ps, 0, none⟩), .int .i64 x] W fun e w' => e = .returned (.int .i64 (heldV M.roots x)) ∧ Still W w' := fun x W k => held_any (hbW W k).sh (by omega) x
  have H33i := H33 (handN M.roots.length hh)
  rw [e2] at H33i
  have H28 : ∀ W, Below (w.heap.size + 1) (w.alloc (mvB 4 A B Cc hh gg  vv (.slice da d.length dc))) W → Calls Tryz.prog 28 #[.pointer (some ⟨ph, 0, none⟩), .int .i64 (handN M.roots.length hh)] W fun e w' => e = .returned (.tuple #[.int .u64 (refW M i : Nat), .int .i64 0]) ∧ Below W.heap.size W w' := fun W k => by
    rw [e1]; exact at_held (hbW W k).he (by omega) hm hri
  have hlr : (ns.getD i (0, [], [])).2.1 = (ob M i).refs := by rw [hd.dt]; rfl
  have hlw : (ns.getD i (0, [], [])).2.2 = (ob M i).raws := by rw [hd.dt]; rfl
  rw [hlr] at er n1
  rw [hlw] at ew n2
  have hLr := b.sh.rf i hd.ln
  have hLw := b.sh.rw i hd.ln
  rw [hlr] at hLr
  rw [hlw] at hLw
  refine changes_write A B Cc hh gg vv (.slice da d.length dc) b.sh.c0 c1 hd.ln hnl h1 n1 n2 r64.2.1 r64.2.2 (H30 hh) H33i H28 rfl (fun W kk => ?_)
  have bW := hbW W kk
  obtain ⟨gN', cN', ar', cr', aw', cw', tN', c1', er', ew', n1', n2'⟩ := bW.sh.nodeAt hd.ln
  rw [hlw] at ew' n2'
  have hW2 : ∀ W2, Below (W.heap.size + 1) (W.alloc (mvB 4 A B Cc hh gg vv (.slice da d.length dc))) W2 → Both0 w0 W2 ps ph tag st M H ns limit last C := fun W2 k => bW.below (box_below W _ W2 k).1
  have hB0 : ∀ W2, Both0 w0 W2 ps ph tag st M H ns limit last C → Bytes W2 da d := fun W2 b2 => hdB.below b2.o1.be
  have hspan : ∀ f : Int, spanM M (refW M i) f d.length = if 0 ≤ f ∧ 0 ≤ ((d.length : Nat) : Int) ∧ f + (d.length : Nat) ≤ 8 * ((ob M i).raws.length : Nat) then 0 else 33 := fun f => by unfold spanM; rw [hd.nb, if_neg (by omega)]
  have hsN : st W.heap.size = 0 := by
    by_cases q : st W.heap.size = 0
    · exact q
    · exact absurd (bW.sh.un _ q) (Nat.lt_irrefl _)
  have H94 : ∀ (ret : Nat) (G : World → Prop), spanM M (refW M i) A d.length = ret → (∀ W2 w' w'' H', Below (W.heap.size + 1) (W.alloc (mvB 4 A B Cc hh gg vv (.slice da d.length dc))) W2 → Below W2.heap.size W2 w' → HAt w'' ph tag (setbM M (refW M i) A d) H' → Fr tag tag w' w'' → G w'') → ∀ W2, Below (W.heap.size + 1) (W.alloc (mvB 4 A B Cc hh gg vv (.slice da d.length dc))) W2 → Calls Tryz.prog 94 #[.slice da d.length dc] W2 fun e w' => ∃ a' cap', e = .returned (.slice a' d.length cap') ∧ Below W2.heap.size W2 w' ∧
      Calls Tryz.prog 93 #[.pointer (some ⟨ph, 0, none⟩), .int .u64 (refW M i : Nat), .int .i64 A, .slice a' d.length cap'] w' fun e w'' => e = .returned (.int .i64 (ret : Nat)) ∧ w''.heap[ps]? = w'.heap[ps]? ∧ w''.heap[gN']? = w'.heap[gN']? ∧ w''.heap[W.heap.size]? = w'.heap[W.heap.size]? ∧ G w'' := fun ret G hret hG W2 k2 => by
    have b2 := hW2 W2 k2
    refine (twin_any da dc d hdl (hB0 W2 b2) hnil).mono ?_
    rintro e w' ⟨a', cap', rfl, hB', kb⟩
    have b3 := b2.below kb
    refine ⟨a', cap', rfl, kb, (hsetbytesM_any b3.he (refW M i) hd.lt A hA2 hA1 d a' cap' hB' hds).mono ?_⟩
    rintro e w'' ⟨rfl, H', h5, f⟩
    have hg' : ∀ g, st g ≠ 0 → w''.heap[g]? = w'.heap[g]? := fun g e => (f.blk g (b3.sh.un g e) (b.ap g e)).1
    have hz := (box_below W _ W2 k2).2
    have hz2 := kb.size
    rw [hret]
    exact ⟨rfl, hg' ps (by rw [b.sh.t1]; decide), hg' gN' (by rw [tN']; decide), (f.blk _ (by omega) (tag_new bW)).1, hG W2 w' w'' H' k2 kb h5 f⟩
  by_cases hc : 0 ≤ A ∧ A + (d.length : Nat) ≤ 8 * ((ob M i).raws.length : Nat)
  · obtain ⟨f, rfl⟩ : ∃ f : Nat, A = (f : Nat) := ⟨A.toNat, by omega⟩
    have hsp0 : spanM M (refW M i) (f : Nat) d.length = 0 := by rw [hspan, if_pos ⟨hc.1, by omega, hc.2⟩]
    have hset : setbM M (refW M i) (f : Nat) d = putO M i (layO M i f d) := by
      unfold setbM
      rw [hsp0, if_pos rfl, hd.nb]
      rfl
    have hLay : layN (ob M i).raws f d d.length = Larder.packL (patch (bytM M i) f d) := layN_pack _ f d r64.1 hds (by omega)
    by_cases hd0 : d.length = 0
    · refine writes_zero 4 (f : Nat) B Cc hh gg vv (refW M i) da d.length dc (G := fun w5 => ∃ W2 w' H', Below (W.heap.size + 1) (W.alloc (mvB 4 (f : Nat) B Cc hh gg vv (.slice da d.length dc))) W2 ∧ Below W2.heap.size W2 w' ∧ HAt w5 ph tag (putO M i (layO M i f d)) H' ∧ Fr tag tag w' w5) bW.sh.c0 c1' hd.ln hnl hdl n2' r64.2.2 (H94 0 _ hsp0 (fun W2 w' w'' H' k2 kb h5 f5 => by rw [hset] at h5; exact ⟨W2, w', H', k2, kb, h5, f5⟩)) rfl (by omega) hd0 (fun w5 hg => ?_)
      obtain ⟨W2, w', H', k2, kb, h5, f5⟩ := hg
      obtain ⟨x1, x2⟩ := box_below W _ W2 k2
      have kk3 : Below (W.heap.size + 1) (W.alloc (mvB 4 (f : Nat) B Cc hh gg vv (.slice da d.length dc))) w' := k2.trans (kb.mono (by omega))
      rw [hd0] at hLay
      have hraw : (layO M i f d).raws = (ob M i).raws := hLay.symm
      refine After.put bW bd hd (layO M i f d) rfl _ kk3 h5 f5 (Nat.le_refl _) ⟨rfl, rfl, rfl⟩ (fun g hg h4 h5' => rfl) (fun s5 => ?_) (fun s5 => ?_)
      · have hL := s5.rf i hd.ln
        rw [hlr] at hL
        exact hL
      · have hL := s5.rw i hd.ln
        rw [hlw] at hL
        rw [hraw]
        exact hL
    · have hrl : (ob M i).raws.length ≠ 0 := by omega
      obtain ⟨ga, cg, hva, hoa, hca⟩ := hLw.at (by omega)
      have ta := b.sh.t5 i ga hd.ln hoa
      obtain ⟨db, doff, hdb⟩ : ∃ db doff, 0 < d.length → da = some ⟨db, doff, none⟩ ∧ db < w0.w.heap.size ∧ ∀ q, q < d.length → w0.w.cell? ⟨db, doff + q, none⟩ = some (.int .u8 (d.getD q 0 : Nat)) := by
        rcases hdB with h | ⟨db, doff, h, hlt, hcd⟩
        · exact ⟨0, 0, fun q => by rw [h] at q; exact absurd q (Nat.lt_irrefl _)⟩
        · exact ⟨db, doff, fun _ => ⟨h, hlt, hcd⟩⟩
      have hga0 : 0 < d.length → ga ≠ db := fun q e => by
        have := b.o2.tg db (.inl (hdb q).2.1)
        rw [← e, ta] at this; omega
      refine writes_yes 4 (f : Nat) B Cc hh gg vv (refW M i) da d.length dc (G := fun w5 => ∃ W2 w' H', Below (W.heap.size + 1) (W.alloc (mvB 4 (f : Nat) B Cc hh gg vv (.slice da d.length dc))) W2 ∧ Below W2.heap.size W2 w' ∧ HAt w5 ph tag (putO M i (layO M i f d)) H' ∧ Fr tag tag w' w5) bW.sh.c0 c1' hd.ln hnl hdl n2' r64.2.2 (H94 0 _ hsp0 (fun W2 w' w'' H' k2 kb h5 f5 => by rw [hset] at h5; exact ⟨W2, w', H', k2, kb, h5, f5⟩)) rfl (by omega) (ob M i).raws d rfl r64.1 rfl hds ga db doff (by rw [ew'] at hva; injection hva) (fun q => (hdb q).1) (by rintro rfl; rw [b.sh.t1] at ta; omega) (by rintro rfl; rw [tN'] at ta; omega) (by rintro rfl; rw [hsN] at ta; omega) hga0 (fun w5 hg => ?_) (fun w5 hg W' hI => ?_)
      · obtain ⟨W2, w', H', k2, kb, h5, f5⟩ := hg
        have b3 := (hW2 W2 k2).below kb
        have hg' : ∀ g, st g ≠ 0 → w5.heap[g]? = w'.heap[g]? := fun g e => (f5.blk g (b3.sh.un g e) (b.ap g e)).1
        have hLv := b3.sh.rw i hd.ln
        rw [hlw] at hLv
        have hLv5 := hLv.same (w' := w5) fun g e => hg' g (by rw [b.sh.t5 i g hd.ln e]; omega)
        obtain ⟨ga2, cg2, hva2, hoa2, hca2⟩ := hLv5.at (by omega)
        have : ga2 = ga := by rw [hva] at hva2; injection hva2 with e1; injection e1 with e1; injection e1 with e1; exact e1.symm
        subst this
        refine ⟨fun j hj => hca2 j hj, fun q hq => ?_⟩
        have o5 := b3.o1.fr f5
        exact (o5.be.cell (p := ⟨db, doff + q, none⟩) (hdb (by omega)).2.1).trans ((hdb (by omega)).2.2 q hq)
      · obtain ⟨W2, w', H', k2, kb, h5, f5⟩ := hg
        have b2 := hW2 W2 k2
        have b3 := b2.below kb
        obtain ⟨x1, x2⟩ := box_below W _ W2 k2
        have kk3 : Below (W.heap.size + 1) (W.alloc (mvB 4 (f : Nat) B Cc hh gg vv (.slice da d.length dc))) w' := k2.trans (kb.mono (by omega))
        refine After.put bW bd hd (layO M i f d) rfl _ kk3 h5 f5 (by rw [hI.size]; exact Nat.le_refl _) ⟨hI.os, hI.tape, hI.output⟩ (fun g hg h4 h5' => hI.blk g (by rintro rfl; exact h5' ta)) (fun s5 => ?_) (fun s5 => ?_)
        · have hL := s5.rf i hd.ln
          rw [hlr] at hL
          exact hL.same fun g e => hI.blk g (by rintro rfl; have := b.sh.t4 i g hd.ln e; omega)
        · have hL := s5.rw i hd.ln
          rw [hlw] at hL
          show Line W' 30 (C.rw i) (Larder.packL (patch (bytM M i) f d)).length (fun k => .int .u64 ((Larder.packL (patch (bytM M i) f d)).getD k 0 : Nat))
          rw [lay_len, ← hLay]
          rcases hL with ⟨e, e0⟩ | ⟨g, cap, cur, e, hg, p1, p2, p3, p4⟩
          · exact absurd e0 hrl
          · have hgg : g = ga := by
              have h0 := hoa
              rw [e] at h0
              simpa [Value.ownBlock] using h0
            subst hgg
            obtain ⟨cur', q1, q2⟩ := hI.shp cur 30 (0, 0) hg
            refine .inr ⟨g, cap, cur', e, q1, p1, p2, by rw [q2]; exact p3, fun j hj => ?_⟩
            have := (hI.cel j hj).1
            simp only [World.cell?, q1] at this
            exact this
  · have hsp0 : spanM M (refW M i) A d.length = 33 := by rw [hspan, if_neg (fun q => hc ⟨q.1, q.2.2⟩)]
    have hset : setbM M (refW M i) A d = M := by unfold setbM; rw [hsp0, if_neg (by decide)]
    refine writes_no 4 A B Cc hh gg vv (refW M i) da d.length dc (G := fun w5 => After w0 ps ph limit last n w5) bW.sh.c0 c1' hd.ln hnl hdl n2' r64.2.2 (H94 33 _ hsp0 (fun W2 w' w'' H' k2 kb h5 f5 => ?_)) (by omega) (fun w5 hg => hg)
    rw [hset] at h5
    exact ⟨tag, st, M, H', ns, C, ((hW2 W2 k2).below kb).heap f5 h5 b.gr rfl rfl, bd.same rfl rfl rfl rfl (Nat.le_succ _)⟩
end Go.Proofs.YtidfllgaeiopjaaGreat
namespace Go.Proofs.YtidfllgaeiopjaaGreat
open Go.ChangeShapes Go.WideShapes Go.ChangeAt Go.RowKit
set_option linter.unusedVariables false
set_option maxRecDepth 100000
set_option maxHeartbeats 1000000

theorem lay_any {w0 : Kp} {w : World} {ps ph : Nat} {tag st : Nat → Nat} {M : Hp} {H : HC} {ns : List (Nat × List Nat × List Nat)} {limit last : Nat} {C : ShC} (b : Both0 w0 w ps ph tag st M H ns limit last C) {n : Nat} (bd : Bnd M n) (hn : n ≤ 10000) (A B Cc hh gg : Int) (vv : Nat) (dv : Value) {m i : Nat} (e1 : handN M.roots.length hh = (m : Nat) + 1) (hm : m < M.roots.length) (hri : M.roots.getD m none = some i) (h1 : 1 ≤ i) (e2 : heldV M.roots (handN M.roots.length hh) = (i : Nat)) (hvv : vv < 18446744073709551616) :
    Calls Tryz.prog 32 #[.pointer (some ⟨ps, 0, none⟩), mvV 3 A B Cc hh gg vv dv] w fun e w' => e = .returned (.bool true) ∧ After w0 ps ph limit last n w' := by
  have hd := b.held hm hri h1
  obtain ⟨gN, cN, ar, cr, aw, cw, tN, c1, er, ew, n1, n2⟩ := b.sh.nodeAt hd.ln
  have r64 := b.he.raw64 hd.is
  have hrt := bd.rt
  have hob := bd.ob
  have hnl : ns.length ≤ 1000000 := by rw [b.gr.ln]; omega
  have hbW : ∀ W, Below (w.heap.size + 1) (w.alloc (mvB 3 A B Cc hh gg vv dv)) W → Both0 w0 W ps ph tag st M H ns limit last C := fun W k => b.below (box_below w _ W k).1
  have H30 : ∀ h W, Below (w.heap.size + 1) (w.alloc (mvB 3 A B Cc hh gg vv dv)) W → Calls Tryz.prog 30 #[.pointer (some ⟨ps, 0, none⟩), .int .i64 h] W fun e w' => e = .returned (.int .i64 (handN M.roots.length h)) ∧ Still W w' := fun h W k => hand_any (hbW W k).sh (by omega) h
  have H33 : ∀ x W, Below (w.heap.size + 1) (w.alloc (mvB 3 A B Cc hh gg vv dv)) W → Calls Tryz.prog 33 #[.pointer (some ⟨ps, 0, none⟩), .int .i64 x] W fun e w' => e = .returned (.int .i64 (heldV M.roots x)) ∧ Still W w' := fun x W k => held_any (hbW W k).sh (by omega) x
  have H33i := H33 (handN M.roots.length hh)
  rw [e2] at H33i
  have H28 : ∀ W, Below (w.heap.size + 1) (w.alloc (mvB 3 A B Cc hh gg vv dv)) W → Calls Tryz.prog 28 #[.pointer (some ⟨ph, 0, none⟩), .int .i64 (handN M.roots.length hh)] W fun e w' => e = .returned (.tuple #[.int .u64 (refW M i : Nat), .int .i64 0]) ∧ Below W.heap.size W w' := fun W k => by
    rw [e1]; exact at_held (hbW W k).he (by omega) hm hri
  have hlr : (ns.getD i (0, [], [])).2.1 = (ob M i).refs := by rw [hd.dt]; rfl
  have hlw : (ns.getD i (0, [], [])).2.2 = (ob M i).raws := by rw [hd.dt]; rfl
  rw [hlr] at er n1
  rw [hlw] at ew n2
  have hLr := b.sh.rf i hd.ln
  have hLw := b.sh.rw i hd.ln
  rw [hlr] at hLr
  rw [hlw] at hLw
  by_cases hr0 : (ob M i).raws.length = 0
  · exact changes_lay0 A B Cc hh gg vv dv b.sh.c0 c1 hd.ln hnl h1 n1 n2 r64.2.1 r64.2.2 (H30 hh) H33i H28 hr0 (fun W k => After.below b bd k)
  · obtain ⟨k, hk⟩ : ∃ k : Nat, A % ((ob M i).raws.length : Nat) = (k : Nat) := ⟨(A % ((ob M i).raws.length : Nat)).toNat, by have := Int.emod_nonneg A (b := ((ob M i).raws.length : Nat)) (by omega); omega⟩
    have hkl : k < (ob M i).raws.length := by have := Int.emod_lt_of_pos A (b := ((ob M i).raws.length : Nat)) (by omega); omega
    obtain ⟨ga, cg, hva, hoa, hca⟩ := hLw.at (by omega)
    have ta := b.sh.t5 i ga hd.ln hoa
    have hset : setM M (refW M i) (((ob M i).refs.length : Nat) + (k : Nat)) vv = (putO M i (setO M i ((ob M i).refs.length + k) vv), 0) := by
      unfold setM
      rw [hd.nb, if_neg (by omega), if_neg (fun q => by have := q.2.1; omega), if_pos ⟨by omega, by unfold fldM; rw [List.length_append, List.length_map]; omega⟩]
      rfl
    have hoO : setO M i ((ob M i).refs.length + k) vv = { ob M i with raws := (ob M i).raws.set k vv } := by unfold setO; rw [if_neg (by omega), Nat.add_sub_cancel_left]
    refine changes_lay A B Cc hh gg vv dv (k := k) (ga := ga) (G := fun w5 => ∃ H' W, Below (w.heap.size + 1) (w.alloc (mvB 3 A B Cc hh gg vv dv)) W ∧ HAt w5 ph tag (putO M i (setO M i ((ob M i).refs.length + k) vv)) H' ∧ Fr tag tag W w5) b.sh.c0 c1 hd.ln hnl h1 n1 n2 r64.2.1 r64.2.2 (H30 hh) H33i H28 (by omega) (by rw [ew] at hva; injection hva) hkl (hca k hkl).1 (hca k hkl).2 (by rintro rfl; rw [b.sh.t1] at ta; omega) (by rintro rfl; rw [tN] at ta; omega) (fun W => by rw [← hk]; exact round_any A _ (by omega) (by have := r64.2.2; omega)) (fun W kk => ?_) (fun w5 hg W' hst => ?_)
    · refine (hset_any (hbW W kk).he (refW M i) hd.lt (((ob M i).refs.length : Nat) + (k : Nat)) vv hvv).mono ?_
      rintro e w' ⟨rfl, H', h5, f⟩
      rw [hset] at h5 ⊢
      have hz := (box_below w _ W kk).2
      have hg' : ∀ g, st g ≠ 0 → w'.heap[g]? = W.heap[g]? := fun g e => (f.blk g ((hbW W kk).sh.un g e) (b.ap g e)).1
      exact ⟨rfl, hg' ps (by rw [b.sh.t1]; decide), hg' gN (by rw [tN]; decide), (f.blk _ hz (tag_new b)).1, hg' ga (by rw [ta]; omega), H', W, kk, h5, f⟩
    · obtain ⟨H', W, kW, h5, f⟩ := hg
      rw [hoO] at h5
      have hzz : (w5.setCell ⟨ga, k, none⟩ (.int .u64 (vv : Nat))).heap.size = w5.heap.size := World.size_setCell _ _ _
      refine After.put b bd hd _ (by rfl) _ kW h5 f (by rw [hst.heap, hzz]; exact Nat.le_refl _) ⟨hst.os, hst.tape, hst.output⟩ (fun g hg h4 h5' => by rw [hst.heap]; exact setCell_else _ _ _ _ _ (by rintro rfl; exact h5' ta)) (fun s5 => ?_) (fun s5 => ?_)
      · have hL := s5.rf i hd.ln
        rw [hlr] at hL
        exact hL.same fun g e => by rw [hst.heap]; exact setCell_else _ _ _ _ _ (by rintro rfl; have := b.sh.t4 i g hd.ln e; omega)
      · have hL := s5.rw i hd.ln
        rw [hlw] at hL
        have := (hL.put hoa k (.int .u64 (vv : Nat)) hkl).same (w' := W') (fun g _ => by rw [hst.heap])
        show Line W' 30 (C.rw i) ((ob M i).raws.set k vv).length _
        rw [List.length_set]
        refine this.congr fun j hj => ?_
        show _ = Value.int .u64 (((ob M i).raws.set k vv).getD j 0 : Nat)
        rw [getD_setL _ _ _ _ hkl]
        by_cases e : j = k
        · rw [if_pos e, if_pos e]
        · rw [if_neg e, if_neg e]

theorem follow_any {w0 : Kp} {w : World} {ps ph : Nat} {tag st : Nat → Nat} {M : Hp} {H : HC} {ns : List (Nat × List Nat × List Nat)} {limit last : Nat} {C : ShC} (b : Both0 w0 w ps ph tag st M H ns limit last C) {n : Nat} (bd : Bnd M n) (hn : n ≤ 10000) (A B Cc hh gg : Int) (vv : Nat) (dv : Value) {m i : Nat} (e1 : handN M.roots.length hh = (m : Nat) + 1) (hm : m < M.roots.length) (hri : M.roots.getD m none = some i) (h1 : 1 ≤ i) (e2 : heldV M.roots (handN M.roots.length hh) = (i : Nat)) :
    Calls Tryz.prog 32 #[.pointer (some ⟨ps, 0, none⟩), mvV 7 A B Cc hh gg vv dv] w fun e w' => e = .returned (.bool true) ∧ After w0 ps ph limit last n w' := by
  have hd := b.held hm hri h1
  obtain ⟨gN, cN, ar, cr, aw, cw, tN, c1, er, ew, n1, n2⟩ := b.sh.nodeAt hd.ln
  have r64 := b.he.raw64 hd.is
  have hrt := bd.rt
  have hob := bd.ob
  have hnl : ns.length ≤ 1000000 := by rw [b.gr.ln]; omega
  have hbW : ∀ W, Below (w.heap.size + 1) (w.alloc (mvB 7 A B Cc hh gg vv dv)) W → Both0 w0 W ps ph tag st M H ns limit last C := fun W k => b.below (box_below w _ W k).1
  have H30 : ∀ h W, Below (w.heap.size + 1) (w.alloc (mvB 7 A B Cc hh gg vv dv)) W → Calls Tryz.prog 30 #[.pointer (some ⟨ps, 0, none⟩), .int .i64 h] W fun e w' => e = .returned (.int .i64 (handN M.roots.length h)) ∧ Still W w' := fun h W k => hand_any (hbW W k).sh (by omega) h
  have H33 : ∀ x W, Below (w.heap.size + 1) (w.alloc (mvB 7 A B Cc hh gg vv dv)) W → Calls Tryz.prog 33 #[.pointer (some ⟨ps, 0, none⟩), .int .i64 x] W fun e w' => e = .returned (.int .i64 (heldV M.roots x)) ∧ Still W w' := fun x W k => held_any (hbW W k).sh (by omega) x
  have H33i := H33 (handN M.roots.length hh)
  rw [e2] at H33i
  have H28 : ∀ W, Below (w.heap.size + 1) (w.alloc (mvB 7 A B Cc hh gg vv dv)) W → Calls Tryz.prog 28 #[.pointer (some ⟨ph, 0, none⟩), .int .i64 (handN M.roots.length hh)] W fun e w' => e = .returned (.tuple #[.int .u64 (refW M i : Nat), .int .i64 0]) ∧ Below W.heap.size W w' := fun W k => by
    rw [e1]; exact at_held (hbW W k).he (by omega) hm hri
  have hlr : (ns.getD i (0, [], [])).2.1 = (ob M i).refs := by rw [hd.dt]; rfl
  have hlw : (ns.getD i (0, [], [])).2.2 = (ob M i).raws := by rw [hd.dt]; rfl
  rw [hlr] at er n1
  rw [hlw] at ew n2
  have hLr := b.sh.rf i hd.ln
  have hLw := b.sh.rw i hd.ln
  rw [hlr] at hLr
  rw [hlw] at hLw
  by_cases hr0 : (ob M i).refs.length = 0
  · exact changes_follow0 A B Cc hh gg vv dv b.sh.c0 c1 hd.ln hnl h1 n1 n2 r64.2.1 r64.2.2 (H30 hh) H33i H28 hr0 (fun W k => After.below b bd k)
  · obtain ⟨k, hk⟩ : ∃ k : Nat, A % ((ob M i).refs.length : Nat) = (k : Nat) := ⟨(A % ((ob M i).refs.length : Nat)).toNat, by have := Int.emod_nonneg A (b := ((ob M i).refs.length : Nat)) (by omega); omega⟩
    have hkl : k < (ob M i).refs.length := by have := Int.emod_lt_of_pos A (b := ((ob M i).refs.length : Nat)) (by omega); omega
    obtain ⟨ga, cg, hva, hoa, hca⟩ := hLr.at (by omega)
    have ta := b.sh.t4 i ga hd.ln hoa
    have hmem : (ob M i).refs.getD k 0 ∈ (ob M i).refs := by rw [List.getD_eq_getElem?_getD, List.getElem?_eq_getElem hkl]; exact List.getElem_mem hkl
    obtain ⟨q1, q2, q3⟩ := may_ref b.he.wf.ok (b.he.wf.ok.rf i hd.is _ hmem)
    have hget : getM M (refW M i) (k : Nat) = (refW M ((ob M i).refs.getD k 0), 0) := by
      unfold getM
      rw [hd.nb, if_neg (by omega), if_pos ⟨by omega, by unfold fldM; rw [List.length_append, List.length_map]; omega⟩]
      unfold fldM
      show (((ob M i).refs.map (refW M) ++ (ob M i).raws).getD k 0, 0) = _
      rw [List.getD_eq_getElem?_getD, List.getElem?_append_left (by rw [List.length_map]; exact hkl), List.getElem?_map, List.getD_eq_getElem?_getD, List.getElem?_eq_getElem hkl]
      rfl
    refine changes_follow A B Cc hh gg vv dv (k := k) (ga := ga) (v := refW M ((ob M i).refs.getD k 0)) (xa := (ob M i).refs.getD k 0) b.sh.c0 c1 hd.ln hnl h1 n1 n2 r64.2.1 r64.2.2 (H30 hh) H33i H28 (by omega) (by rw [er] at hva; injection hva) hkl (hca k hkl).1 (fun W => by rw [← hk]; exact round_any A _ (by omega) (by have := r64.2.1; omega)) (fun W kk => ?_) (fun W kk => ?_)
    · have := hget_any (hbW W kk).he (refW M i) hd.lt (k : Nat)
      rw [hget] at this
      exact this
    · have bW := hbW W kk
      have := rooted_any bW (by omega) (refW M ((ob M i).refs.getD k 0)) q3 q1
      rw [q2] at this
      refine this.mono ?_
      rintro e w' ⟨rfl, q, t4, st4, H4, C4, low, b4, kp1, kp2⟩
      have hz := (box_below w _ W kk).2
      have hg' : ∀ g, st g ≠ 0 → st g ≠ 1 → st g ≠ 3 → w'.heap[g]? = W.heap[g]? := fun g e h1 h3 => kp1 g (bW.sh.un g e) (b.ap g e) h1 h3
      have hsN : st w.heap.size = 0 := by
        by_cases q : st w.heap.size = 0
        · exact q
        · exact absurd (b.sh.un _ q) (Nat.lt_irrefl _)
      refine ⟨rfl, kp2 1 (by decide), hg' gN (by rw [tN]; decide) (by rw [tN]; decide) (by rw [tN]; decide), kp1 _ hz (tag_new b) (by rw [hsN]; decide) (by rw [hsN]; decide), hg' ga (by rw [ta]; omega) (by rw [ta]; omega) (by rw [ta]; omega), t4, st4, _, H4, ns, C4, b4, bd.same rfl rfl rfl rfl ?_⟩
      show (poolPut M.roots q _).length ≤ _
      rw [poolPut_length]; split <;> omega

end Go.Proofs.YtidfllgaeiopjaaGreat
namespace Go.Proofs.YtidfllgaeiopjaaGreat
open Go.ChangeShapes Go.WideShapes Go.ChangeAt Go.RowKit
set_option linter.unusedVariables false
set_option maxRecDepth 100000
set_option maxHeartbeats 1000000

/-- the data of a move: a list of bytes of what came in -/
structure DataOk (w0 : World) (A : Int) (vv : Nat) (da : Option Addr) (dc : Nat) (d : List Nat) : Prop where
  a1 : -9223372036854775808 ≤ A
  a2 : A ≤ 9223372036854775807
  vl : vv < 18446744073709551616
  dl : d.length ≤ 140737488355328
  sm : Small d
  by' : Bytes w0 da d
  nl : da = none → dc = 0

theorem changes_any {w0 : Kp} {w : World} {ps ph : Nat} {tag st : Nat → Nat} {M : Hp} {H : HC} {ns : List (Nat × List Nat × List Nat)} {limit last : Nat} {C : ShC} (b : Both0 w0 w ps ph tag st M H ns limit last C) {n : Nat} (bd : Bnd M n) (hn : n ≤ 10000) (dd A B Cc hh gg : Int) (vv : Nat) (da : Option Addr) (dc : Nat) (d : List Nat) (ok : DataOk w0.w A vv da dc d) (hdo : dd = 2 ∨ dd = 3 ∨ dd = 4 ∨ dd = 7) :
    Calls Tryz.prog 32 #[.pointer (some ⟨ps, 0, none⟩), mvV dd A B Cc hh gg vv (.slice da d.length dc)] w fun e w' => e = .returned (.bool true) ∧ After w0 ps ph limit last n w' := by
  have hrt := bd.rt
  have none1 : heldV M.roots (handN M.roots.length hh) < 1 → Calls Tryz.prog 32 #[.pointer (some ⟨ps, 0, none⟩), mvV dd A B Cc hh gg vv (.slice da d.length dc)] w fun e w' => e = .returned (.bool true) ∧ After w0 ps ph limit last n w' := fun hx => by
    have hbW : ∀ W, Below (w.heap.size + 1) (w.alloc (mvB dd A B Cc hh gg vv (.slice da d.length dc))) W → Both0 w0 W ps ph tag st M H ns limit last C := fun W k => b.below (box_below w _ W k).1
    exact changes_none dd A B Cc hh gg vv (.slice da d.length dc) hx (fun W k => hand_any (hbW W k).sh (by omega) hh) (fun W k => held_any (hbW W k).sh (by omega) _) (fun W k => After.below b bd k)
  rcases held_cases M.roots (handN M.roots.length hh) with hx | ⟨m, i, e1, hm, hri, e2⟩
  · exact none1 (by rw [hx]; decide)
  · by_cases h1 : i < 1
    · exact none1 (by rw [e2]; omega)
    · have h1' : 1 ≤ i := by omega
      rcases hdo with rfl | rfl | rfl | rfl
      · exact link_any b bd hn A B Cc hh gg vv _ e1 hm hri h1' e2
      · exact lay_any b bd hn A B Cc hh gg vv _ e1 hm hri h1' e2 ok.vl
      · exact write_any b bd hn A B Cc hh gg vv da dc d ok.a1 ok.a2 ok.dl ok.sm ok.by' ok.nl e1 hm hri h1' e2
      · exact follow_any b bd hn A B Cc hh gg vv _ e1 hm hri h1' e2
end Go.Proofs.YtidfllgaeiopjaaGreat
namespace Go.Proofs.YtidfllgaeiopjaaGreat
open Go.ChangeShapes Go.WideShapes Go.ChangeAt Go.RowKit
set_option linter.unusedVariables false
set_option linter.unusedSimpArgs false
set_option maxRecDepth 100000
set_option maxHeartbeats 1000000

/-- what step reads -/
structure LimbS (ps ph b : Nat) (dd A B Cc hh gg : Int) (vv : Nat) (dv vH : Value) (W : World) : Prop where
  c0 : W.cell? ⟨ps, 0, none⟩ = some (.pointer (some ⟨ph, 0, none⟩))
  c2 : W.cell? ⟨ps, 2, none⟩ = some vH
  bx : Boxed W b dd A B Cc hh gg vv dv
theorem LimbS.like {ps ph b : Nat} {dd A B Cc hh gg : Int} {vv : Nat} {dv vH : Value} {W W' : World} (h : LimbS ps ph b dd A B Cc hh gg vv dv vH W) (e1 : W'.heap[ps]? = W.heap[ps]?) (e2 : W'.heap[b]? = W.heap[b]?) : LimbS ps ph b dd A B Cc hh gg vv dv vH W' :=
  ⟨by rw [← h.c0]; simp only [World.cell?, e1], by rw [← h.c2]; simp only [World.cell?, e1], h.bx.same e2⟩

theorem step_make {w : World} {ps ph : Nat} (A B Cc hh gg : Int) (vv : Nat) (dv vH : Value) (hod : dv.oneCell' = true) {hn : Int} (c0 : w.cell? ⟨ps, 0, none⟩ = some (.pointer (some ⟨ph, 0, none⟩))) (c2 : w.cell? ⟨ps, 2, none⟩ = some vH) (c4 : ∃ x, w.cell? ⟨ps, 4, none⟩ = some x) (f4 : w.frozen? ⟨ps, 4, none⟩ = false)
    (H30 : ∀ W, Below (w.heap.size + 1) ((w.setCell ⟨ps, 4, none⟩ (.int .i64 0)).alloc (mvB 1 A B Cc hh gg vv dv)) W → Calls Tryz.prog 30 #[.pointer (some ⟨ps, 0, none⟩), .int .i64 hh] W fun e w' => e = .returned (.int .i64 hn) ∧ Still W w')
     {R : World → Prop} (HC : ∀ W, Below (w.heap.size + 1) ((w.setCell ⟨ps, 4, none⟩ (.int .i64 0)).alloc (mvB 1 A B Cc hh gg vv dv)) W → Calls Tryz.prog 31 #[.pointer (some ⟨ps, 0, none⟩), mvV 1 A B Cc hh gg vv dv] W fun e w' => e = .returned (.bool true) ∧ R w' ) :
    Calls Tryz.prog 12 #[.pointer (some ⟨ps, 0, none⟩), mvV 1 A B Cc hh gg vv dv] w fun e w' => e = .returned (.bool true) ∧ R w' := by
  have hpl : ps < w.heap.size := block_lt_of_cell c0
  have hb : Below w.heap.size w (w.alloc (mvB 1 A B Cc hh gg vv dv)) := (Below.refl _ _).alloc (Nat.le_refl _) _
  have hz0 : (w.setCell ⟨ps, 4, none⟩ (.int .i64 0)).heap.size = w.heap.size := World.size_setCell _ _ _
  have hsz : ((w.setCell ⟨ps, 4, none⟩ (.int .i64 0)).alloc (mvB 1 A B Cc hh gg vv dv)).heap.size = w.heap.size + 1 := by simp
  have hb1 : Below w.heap.size (w.setCell ⟨ps, 4, none⟩ (.int .i64 0)) ((w.setCell ⟨ps, 4, none⟩ (.int .i64 0)).alloc (mvB 1 A B Cc hh gg vv dv)) := by rw [← hz0]; exact (Below.refl _ _).alloc (Nat.le_refl _) _
  have L0 : LimbS ps ph w.heap.size 1 A B Cc hh gg vv dv vH ((w.setCell ⟨ps, 4, none⟩ (.int .i64 0)).alloc (mvB 1 A B Cc hh gg vv dv)) := by
    refine ⟨?_, ?_, ?_⟩
    · rw [hb1.cell (p := ⟨ps, 0, none⟩) hpl, World.cell?_setCell_other _ _ _ _ (by simp)]; exact c0
    · rw [hb1.cell (p := ⟨ps, 2, none⟩) hpl, World.cell?_setCell_other _ _ _ _ (by simp)]; exact c2
    · have := Boxed.new (w.setCell ⟨ps, 4, none⟩ (.int .i64 0)) 1 A B Cc hh gg vv dv
      rw [hz0] at this
      exact this
  have hL : ∀ W, Below (w.heap.size + 1) ((w.setCell ⟨ps, 4, none⟩ (.int .i64 0)).alloc (mvB 1 A B Cc hh gg vv dv)) W → LimbS ps ph w.heap.size 1 A B Cc hh gg vv dv vH W := fun W k => L0.like (k.block ps (by omega)) (k.block w.heap.size (by omega))
  have hOn : ∀ W w', Below (w.heap.size + 1) ((w.setCell ⟨ps, 4, none⟩ (.int .i64 0)).alloc (mvB 1 A B Cc hh gg vv dv)) W → Below W.heap.size W w' → Below (w.heap.size + 1) ((w.setCell ⟨ps, 4, none⟩ (.int .i64 0)).alloc (mvB 1 A B Cc hh gg vv dv)) w' := fun W w' k q => k.trans (q.mono (by have := k.size; rw [hsz] at this; exact this))
  obtain ⟨x4, c4⟩ := c4
  have a0 := (hb.cell (p := ⟨ps, 4, none⟩) hpl).trans c4
  have a1 : (w.alloc (mvB 1 A B Cc hh gg vv dv)).frozen? ⟨ps, 4, none⟩ = false := by rw [← f4]; simp only [World.frozen?, hb.block ps hpl]
  have H30' : Hid (∀ W, Hid (Below (w.heap.size + 1) ((w.setCell ⟨ps, 4, none⟩ (.int .i64 0)).alloc (mvB 1 A B Cc hh gg vv dv)) W) → Calls Tryz.prog 30 #[.pointer (some ⟨ps, 0, none⟩), .int .i64 hh] W fun e w' => e = .returned (.int .i64 hn) ∧ Hid (Below (w.heap.size + 1) ((w.setCell ⟨ps, 4, none⟩ (.int .i64 0)).alloc (mvB 1 A B Cc hh gg vv dv)) w') ∧ LimbS ps ph w.heap.size 1 A B Cc hh gg vv dv vH w') := hide (fun W hW => (H30 W (unhide hW)).mono fun e w' ⟨q1, q2⟩ => ⟨q1, hide (hOn W w' (unhide hW) q2.below), hL w' (hOn W w' (unhide hW) q2.below)⟩)
  have HC' : Hid (∀ W, Hid (Below (w.heap.size + 1) ((w.setCell ⟨ps, 4, none⟩ (.int .i64 0)).alloc (mvB 1 A B Cc hh gg vv dv)) W) → Calls Tryz.prog 31 #[.pointer (some ⟨ps, 0, none⟩), mvV 1 A B Cc hh gg vv dv] W fun e w' => e = .returned (.bool true) ∧ R w' ) := hide (fun W hW => HC W (unhide hW))
  unfold mvV at HC'
  have hO0 : Hid (Below (w.heap.size + 1) ((w.setCell ⟨ps, 4, none⟩ (.int .i64 0)).alloc (mvB 1 A B Cc hh gg vv dv)) ((w.setCell ⟨ps, 4, none⟩ (.int .i64 0)).alloc (mvB 1 A B Cc hh gg vv dv))) := hide (Below.refl _ _)
  clear H30 hOn hL hb hb1 hz0 hsz L0 c0 c2 c4 f4 HC
  unfold mvV
  unfold mvB at H30' hO0 a0 a1 HC'
  go_enter Tryz.func12, Tryz.ntmps12
  go_wp2_with fail
  refine (unhide H30' _ hO0).mono ?_
  clear hO0 a0 a1
  rintro e w1 ⟨rfl, hO1, ⟨x0, x2, ⟨r0, r1, r2, r3, r4, r5, r6, r7⟩⟩⟩
  go_wp2_with fail
  refine (unhide HC' _ hO1).mono ?_
  rintro e w2 ⟨rfl, hR⟩
  go_wp2_with fail
  go_ret
  exact ⟨rfl, hR⟩

theorem step_change {w : World} {ps ph : Nat} (dd A B Cc hh gg : Int) (vv : Nat) (dv vH : Value) (hod : dv.oneCell' = true) {hn : Int} (c0 : w.cell? ⟨ps, 0, none⟩ = some (.pointer (some ⟨ph, 0, none⟩))) (c2 : w.cell? ⟨ps, 2, none⟩ = some vH) (c4 : ∃ x, w.cell? ⟨ps, 4, none⟩ = some x) (f4 : w.frozen? ⟨ps, 4, none⟩ = false)
    (H30 : ∀ W, Below (w.heap.size + 1) ((w.setCell ⟨ps, 4, none⟩ (.int .i64 0)).alloc (mvB dd A B Cc hh gg vv dv)) W → Calls Tryz.prog 30 #[.pointer (some ⟨ps, 0, none⟩), .int .i64 hh] W fun e w' => e = .returned (.int .i64 hn) ∧ Still W w')
     {R : World → Prop} (hdo : dd = 2 ∨ dd = 3 ∨ dd = 4 ∨ dd = 7) (HC : ∀ W, Below (w.heap.size + 1) ((w.setCell ⟨ps, 4, none⟩ (.int .i64 0)).alloc (mvB dd A B Cc hh gg vv dv)) W → Calls Tryz.prog 32 #[.pointer (some ⟨ps, 0, none⟩), mvV dd A B Cc hh gg vv dv] W fun e w' => e = .returned (.bool true) ∧ R w' ) :
    Calls Tryz.prog 12 #[.pointer (some ⟨ps, 0, none⟩), mvV dd A B Cc hh gg vv dv] w fun e w' => e = .returned (.bool true) ∧ R w' := by
  have hpl : ps < w.heap.size := block_lt_of_cell c0
  have hb : Below w.heap.size w (w.alloc (mvB dd A B Cc hh gg vv dv)) := (Below.refl _ _).alloc (Nat.le_refl _) _
  have hz0 : (w.setCell ⟨ps, 4, none⟩ (.int .i64 0)).heap.size = w.heap.size := World.size_setCell _ _ _
  have hsz : ((w.setCell ⟨ps, 4, none⟩ (.int .i64 0)).alloc (mvB dd A B Cc hh gg vv dv)).heap.size = w.heap.size + 1 := by simp
  have hb1 : Below w.heap.size (w.setCell ⟨ps, 4, none⟩ (.int .i64 0)) ((w.setCell ⟨ps, 4, none⟩ (.int .i64 0)).alloc (mvB dd A B Cc hh gg vv dv)) := by rw [← hz0]; exact (Below.refl _ _).alloc (Nat.le_refl _) _
  have L0 : LimbS ps ph w.heap.size dd A B Cc hh gg vv dv vH ((w.setCell ⟨ps, 4, none⟩ (.int .i64 0)).alloc (mvB dd A B Cc hh gg vv dv)) := by
    refine ⟨?_, ?_, ?_⟩
    · rw [hb1.cell (p := ⟨ps, 0, none⟩) hpl, World.cell?_setCell_other _ _ _ _ (by simp)]; exact c0
    · rw [hb1.cell (p := ⟨ps, 2, none⟩) hpl, World.cell?_setCell_other _ _ _ _ (by simp)]; exact c2
    · have := Boxed.new (w.setCell ⟨ps, 4, none⟩ (.int .i64 0)) dd A B Cc hh gg vv dv
      rw [hz0] at this
      exact this
  have hL : ∀ W, Below (w.heap.size + 1) ((w.setCell ⟨ps, 4, none⟩ (.int .i64 0)).alloc (mvB dd A B Cc hh gg vv dv)) W → LimbS ps ph w.heap.size dd A B Cc hh gg vv dv vH W := fun W k => L0.like (k.block ps (by omega)) (k.block w.heap.size (by omega))
  have hOn : ∀ W w', Below (w.heap.size + 1) ((w.setCell ⟨ps, 4, none⟩ (.int .i64 0)).alloc (mvB dd A B Cc hh gg vv dv)) W → Below W.heap.size W w' → Below (w.heap.size + 1) ((w.setCell ⟨ps, 4, none⟩ (.int .i64 0)).alloc (mvB dd A B Cc hh gg vv dv)) w' := fun W w' k q => k.trans (q.mono (by have := k.size; rw [hsz] at this; exact this))
  obtain ⟨x4, c4⟩ := c4
  have a0 := (hb.cell (p := ⟨ps, 4, none⟩) hpl).trans c4
  have a1 : (w.alloc (mvB dd A B Cc hh gg vv dv)).frozen? ⟨ps, 4, none⟩ = false := by rw [← f4]; simp only [World.frozen?, hb.block ps hpl]
  have H30' : Hid (∀ W, Hid (Below (w.heap.size + 1) ((w.setCell ⟨ps, 4, none⟩ (.int .i64 0)).alloc (mvB dd A B Cc hh gg vv dv)) W) → Calls Tryz.prog 30 #[.pointer (some ⟨ps, 0, none⟩), .int .i64 hh] W fun e w' => e = .returned (.int .i64 hn) ∧ Hid (Below (w.heap.size + 1) ((w.setCell ⟨ps, 4, none⟩ (.int .i64 0)).alloc (mvB dd A B Cc hh gg vv dv)) w') ∧ LimbS ps ph w.heap.size dd A B Cc hh gg vv dv vH w') := hide (fun W hW => (H30 W (unhide hW)).mono fun e w' ⟨q1, q2⟩ => ⟨q1, hide (hOn W w' (unhide hW) q2.below), hL w' (hOn W w' (unhide hW) q2.below)⟩)
  have HC' : Hid (∀ W, Hid (Below (w.heap.size + 1) ((w.setCell ⟨ps, 4, none⟩ (.int .i64 0)).alloc (mvB dd A B Cc hh gg vv dv)) W) → Calls Tryz.prog 32 #[.pointer (some ⟨ps, 0, none⟩), mvV dd A B Cc hh gg vv dv] W fun e w' => e = .returned (.bool true) ∧ R w' ) := hide (fun W hW => HC W (unhide hW))
  unfold mvV at HC'
  have HDO := hide hdo
  have hO0 : Hid (Below (w.heap.size + 1) ((w.setCell ⟨ps, 4, none⟩ (.int .i64 0)).alloc (mvB dd A B Cc hh gg vv dv)) ((w.setCell ⟨ps, 4, none⟩ (.int .i64 0)).alloc (mvB dd A B Cc hh gg vv dv))) := hide (Below.refl _ _)
  clear H30 hOn hL hb hb1 hz0 hsz L0 c0 c2 c4 f4 HC hdo
  unfold mvV
  unfold mvB at H30' hO0 a0 a1 HC'
  go_enter Tryz.func12, Tryz.ntmps12
  go_wp2_with fail
  refine (unhide H30' _ hO0).mono ?_
  clear hO0 a0 a1
  rintro e w1 ⟨rfl, hO1, ⟨x0, x2, ⟨r0, r1, r2, r3, r4, r5, r6, r7⟩⟩⟩
  rcases unhide HDO with rfl | rfl | rfl | rfl
  all_goals clear HDO
  all_goals go_wp2_with fail
  all_goals refine (unhide HC' _ hO1).mono ?_
  all_goals rintro e w2 ⟨rfl, hR⟩
  all_goals go_wp2_with fail
  all_goals go_ret
  all_goals exact ⟨rfl, hR⟩
end Go.Proofs.YtidfllgaeiopjaaGreat
