/- step: the walks. -/
import Derived.Test.YtidfllgaeiopjaaGreatShP
namespace Go.Proofs.YtidfllgaeiopjaaGreat
open Go.ChangeShapes Go.WideShapes Go.ChangeAt Go.RowKit
set_option linter.unusedVariables false
set_option maxRecDepth 100000
set_option maxHeartbeats 1000000

theorem lay_any {w0 : Kp} {w : World} {ps ph : Nat} {tag st : Nat → Nat} {M : Hp} {H : HC} {ns : List (Nat × List Nat × List Nat)} {limit last : Nat} {C : ShC} (b : Both0 w0 w ps ph tag st M H ns limit last C) {n : Nat} (bd : Bnd M n) (hn : n ≤ 10000) (A B Cc hh gg : Int) (vv : Nat) (dv : Value) {m i : Nat} (e1 : handN M.roots.length hh = (m : Nat) + 1) (hm : m < M.roots.length) (hri : M.roots.getD m none = some i) (h1 : 1 ≤ i) (e2 : heldV M.roots (handN M.roots.length hh) = (i : Nat)) (hvv : vv < 18446744073709551616) :
    Calls Tryz.prog 32 #[.pointer (some ⟨ps, 0, none⟩), mvV 3 A B Cc hh gg vv dv] w fun e w' => e = .returned (.bool true) ∧ After w0 ps ph limit last n w' := by
  have hd := b.held hm hri h1
  obtain ⟨gN, cN, ar, cr, aw, cw, tN, c1, er, ew, n1, n2⟩ := b.sh.nodeAt hd.ln
  have r64 := b.he.raw64 hd.is
  have hrt := bd.rt
  have hob := bd.ob
  have hnl : ns.length ≤ 1000000 := by rw [b.gr.ln]; omega
  have hbW : ∀ W, Below (w.heap.size + 1) (w.alloc (mvB 3 A B Cc hh gg vv dv)) W → Both0 w0 W ps ph tag st M H ns limit last C := fun W k => b.below (box_below w _ W k).1
  have H30 : ∀ h W, Below (w.heap.size + 1) (w.alloc (mvB 3 A B Cc hh gg vv dv)) W → Calls Tryz.prog 30 #[.pointer (some ⟨ps, 0, none⟩), .int .i64 h] W fun e w' => e = .returned (.int .i64 (handN M.roots.length h)) ∧ Still W w' := fun h W k => hand_any (hbW W k).sh (by omega) h
  have H33 : ∀ x W, Below (w.heap.size + 1) (w.alloc (mvB 3 A B Cc hh gg vv dv)) W → Calls Tryz.prog 33 #[.pointer (some ⟨ps, 0, none⟩), .int .i64 x] W fun e w' => e = .returned (.int .i64 (heldV M.roots x)) ∧ Still W w' := fun x W k => held_any (hbW W k).sh (by omega) x
  have H33i := H33 (handN M.roots.length hh)
  rw [e2] at H33i
  have H28 : ∀ W, Below (w.heap.size + 1) (w.alloc (mvB 3 A B Cc hh gg vv dv)) W → Calls Tryz.prog 28 #[.pointer (some ⟨ph, 0, none⟩), .int .i64 (handN M.roots.length hh)] W fun e w' => e = .returned (.tuple #[.int .u64 (refW M i : Nat), .int .i64 0]) ∧ Below W.heap.size W w' := fun W k => by
    rw [e1]; exact at_held (hbW W k).he (by omega) hm hri
  have hlr : (ns.getD i (0, [], [])).2.1 = (ob M i).refs := by rw [hd.dt]; rfl
  have hlw : (ns.getD i (0, [], [])).2.2 = (ob M i).raws := by rw [hd.dt]; rfl
  rw [hlr] at er n1
  rw [hlw] at ew n2
  have hLr := b.sh.rf i hd.ln
  have hLw := b.sh.rw i hd.ln
  rw [hlr] at hLr
  rw [hlw] at hLw
  by_cases hr0 : (ob M i).raws.length = 0
  · exact changes_lay0 A B Cc hh gg vv dv b.sh.c0 c1 hd.ln hnl h1 n1 n2 r64.2.1 r64.2.2 (H30 hh) H33i H28 hr0 (fun W k => After.below b bd k)
  · obtain ⟨k, hk⟩ : ∃ k : Nat, A % ((ob M i).raws.length : Nat) = (k : Nat) := ⟨(A % ((ob M i).raws.length : Nat)).toNat, by have := Int.emod_nonneg A (b := ((ob M i).raws.length : Nat)) (by omega); omega⟩
    have hkl : k < (ob M i).raws.length := by have := Int.emod_lt_of_pos A (b := ((ob M i).raws.length : Nat)) (by omega); omega
    obtain ⟨ga, cg, hva, hoa, hca⟩ := hLw.at (by omega)
    have ta := b.sh.t5 i ga hd.ln hoa
    have hset : setM M (refW M i) (((ob M i).refs.length : Nat) + (k : Nat)) vv = (putO M i (setO M i ((ob M i).refs.length + k) vv), 0) := by
      unfold setM
      rw [hd.nb, if_neg (by omega), if_neg (fun q => by have := q.2.1; omega), if_pos ⟨by omega, by unfold fldM; rw [List.length_append, List.length_map]; omega⟩]
      rfl
    have hoO : setO M i ((ob M i).refs.length + k) vv = { ob M i with raws := (ob M i).raws.set k vv } := by unfold setO; rw [if_neg (by omega), Nat.add_sub_cancel_left]
    refine changes_lay A B Cc hh gg vv dv (k := k) (ga := ga) (G := fun w5 => ∃ H' W, Below (w.heap.size + 1) (w.alloc (mvB 3 A B Cc hh gg vv dv)) W ∧ HAt w5 ph tag (putO M i (setO M i ((ob M i).refs.length + k) vv)) H' ∧ Fr tag tag W w5) b.sh.c0 c1 hd.ln hnl h1 n1 n2 r64.2.1 r64.2.2 (H30 hh) H33i H28 (by omega) (by rw [ew] at hva; injection hva) hkl (hca k hkl).1 (hca k hkl).2 (by rintro rfl; rw [b.sh.t1] at ta; omega) (by rintro rfl; rw [tN] at ta; omega) (fun W => by rw [← hk]; exact round_any A _ (by omega) (by have := r64.2.2; omega)) (fun W kk => ?_) (fun w5 hg W' hst => ?_)
    · refine (hset_any (hbW W kk).he (refW M i) hd.lt (((ob M i).refs.length : Nat) + (k : Nat)) vv hvv).mono ?_
      rintro e w' ⟨rfl, H', h5, f⟩
      rw [hset] at h5 ⊢
      have hz := (box_below w _ W kk).2
      have hg' : ∀ g, st g ≠ 0 → w'.heap[g]? = W.heap[g]? := fun g e => (f.blk g ((hbW W kk).sh.un g e) (b.ap g e)).1
      exact ⟨rfl, hg' ps (by rw [b.sh.t1]; decide), hg' gN (by rw [tN]; decide), (f.blk _ hz (tag_new b)).1, hg' ga (by rw [ta]; omega), H', W, kk, h5, f⟩
    · obtain ⟨H', W, kW, h5, f⟩ := hg
      rw [hoO] at h5
      have hzz : (w5.setCell ⟨ga, k, none⟩ (.int .u64 (vv : Nat))).heap.size = w5.heap.size := World.size_setCell _ _ _
      refine After.put b bd hd _ (by rfl) _ kW h5 f (by rw [hst.heap, hzz]; exact Nat.le_refl _) ⟨hst.os, hst.tape, hst.output⟩ (fun g hg h4 h5' => by rw [hst.heap]; exact setCell_else _ _ _ _ _ (by rintro rfl; exact h5' ta)) (fun s5 => ?_) (fun s5 => ?_)
      · have hL := s5.rf i hd.ln
        rw [hlr] at hL
        exact hL.same fun g e => by rw [hst.heap]; exact setCell_else _ _ _ _ _ (by rintro rfl; have := b.sh.t4 i g hd.ln e; omega)
      · have hL := s5.rw i hd.ln
        rw [hlw] at hL
        have := (hL.put hoa k (.int .u64 (vv : Nat)) hkl).same (w' := W') (fun g _ => by rw [hst.heap])
        show Line W' 30 (C.rw i) ((ob M i).raws.set k vv).length _
        rw [List.length_set]
        refine this.congr fun j hj => ?_
        show _ = Value.int .u64 (((ob M i).raws.set k vv).getD j 0 : Nat)
        rw [getD_setL _ _ _ _ hkl]
        by_cases e : j = k
        · rw [if_pos e, if_pos e]
        · rw [if_neg e, if_neg e]

theorem follow_any {w0 : Kp} {w : World} {ps ph : Nat} {tag st : Nat → Nat} {M : Hp} {H : HC} {ns : List (Nat × List Nat × List Nat)} {limit last : Nat} {C : ShC} (b : Both0 w0 w ps ph tag st M H ns limit last C) {n : Nat} (bd : Bnd M n) (hn : n ≤ 10000) (A B Cc hh gg : Int) (vv : Nat) (dv : Value) {m i : Nat} (e1 : handN M.roots.length hh = (m : Nat) + 1) (hm : m < M.roots.length) (hri : M.roots.getD m none = some i) (h1 : 1 ≤ i) (e2 : heldV M.roots (handN M.roots.length hh) = (i : Nat)) :
    Calls Tryz.prog 32 #[.pointer (some ⟨ps, 0, none⟩), mvV 7 A B Cc hh gg vv dv] w fun e w' => e = .returned (.bool true) ∧ After w0 ps ph limit last n w' := by
  have hd := b.held hm hri h1
  obtain ⟨gN, cN, ar, cr, aw, cw, tN, c1, er, ew, n1, n2⟩ := b.sh.nodeAt hd.ln
  have r64 := b.he.raw64 hd.is
  have hrt := bd.rt
  have hob := bd.ob
  have hnl : ns.length ≤ 1000000 := by rw [b.gr.ln]; omega
  have hbW : ∀ W, Below (w.heap.size + 1) (w.alloc (mvB 7 A B Cc hh gg vv dv)) W → Both0 w0 W ps ph tag st M H ns limit last C := fun W k => b.below (box_below w _ W k).1
  have H30 : ∀ h W, Below (w.heap.size + 1) (w.alloc (mvB 7 A B Cc hh gg vv dv)) W → Calls Tryz.prog 30 #[.pointer (some ⟨ps, 0, none⟩), .int .i64 h] W fun e w' => e = .returned (.int .i64 (handN M.roots.length h)) ∧ Still W w' := fun h W k => hand_any (hbW W k).sh (by omega) h
  have H33 : ∀ x W, Below (w.heap.size + 1) (w.alloc (mvB 7 A B Cc hh gg vv dv)) W → Calls Tryz.prog 33 #[.pointer (some ⟨ps, 0, none⟩), .int .i64 x] W fun e w' => e = .returned (.int .i64 (heldV M.roots x)) ∧ Still W w' := fun x W k => held_any (hbW W k).sh (by omega) x
  have H33i := H33 (handN M.roots.length hh)
  rw [e2] at H33i
  have H28 : ∀ W, Below (w.heap.size + 1) (w.alloc (mvB 7 A B Cc hh gg vv dv)) W → Calls Tryz.prog 28 #[.pointer (some ⟨ph, 0, none⟩), .int .i64 (handN M.roots.length hh)] W fun e w' => e = .returned (.tuple #[.int .u64 (refW M i : Nat), .int .i64 0]) ∧ Below W.heap.size W w' := fun W k => by
    rw [e1]; exact at_held (hbW W k).he (by omega) hm hri
  have hlr : (ns.getD i (0, [], [])).2.1 = (ob M i).refs := by rw [hd.dt]; rfl
  have hlw : (ns.getD i (0, [], [])).2.2 = (ob M i).raws := by rw [hd.dt]; rfl
  rw [hlr] at er n1
  rw [hlw] at ew n2
  have hLr := b.sh.rf i hd.ln
  have hLw := b.sh.rw i hd.ln
  rw [hlr] at hLr
  rw [hlw] at hLw
  by_cases hr0 : (ob M i).refs.length = 0
  · exact changes_follow0 A B Cc hh gg vv dv b.sh.c0 c1 hd.ln hnl h1 n1 n2 r64.2.1 r64.2.2 (H30 hh) H33i H28 hr0 (fun W k => After.below b bd k)
  · obtain ⟨k, hk⟩ : ∃ k : Nat, A % ((ob M i).refs.length : Nat) = (k : Nat) := ⟨(A % ((ob M i).refs.length : Nat)).toNat, by have := Int.emod_nonneg A (b := ((ob M i).refs.length : Nat)) (by omega); omega⟩
    have hkl : k < (ob M i).refs.length := by have := Int.emod_lt_of_pos A (b := ((ob M i).refs.length : Nat)) (by omega); omega
    obtain ⟨ga, cg, hva, hoa, hca⟩ := hLr.at (by omega)
    have ta := b.sh.t4 i ga hd.ln hoa
    have hmem : (ob M i).refs.getD k 0 ∈ (ob M i).refs := by rw [List.getD_eq_getElem?_getD, List.getElem?_eq_getElem hkl]; exact List.getElem_mem hkl
    obtain ⟨q1, q2, q3⟩ := may_ref b.he.wf.ok (b.he.wf.ok.rf i hd.is _ hmem)
    have hget : getM M (refW M i) (k : Nat) = (refW M ((ob M i).refs.getD k 0), 0) := by
      unfold getM
      rw [hd.nb, if_neg (by omega), if_pos ⟨by omega, by unfold fldM; rw [List.length_append, List.length_map]; omega⟩]
      unfold fldM
      show (((ob M i).refs.map (refW M) ++ (ob M i).raws).getD k 0, 0) = _
      rw [List.getD_eq_getElem?_getD, List.getElem?_append_left (by rw [List.length_map]; exact hkl), List.getElem?_map, List.getD_eq_getElem?_getD, List.getElem?_eq_getElem hkl]
      rfl
    refine changes_follow A B Cc hh gg vv dv (k := k) (ga := ga) (v := refW M ((ob M i).refs.getD k 0)) (xa := (ob M i).refs.getD k 0) b.sh.c0 c1 hd.ln hnl h1 n1 n2 r64.2.1 r64.2.2 (H30 hh) H33i H28 (by omega) (by rw [er] at hva; injection hva) hkl (hca k hkl).1 (fun W => by rw [← hk]; exact round_any A _ (by omega) (by have := r64.2.1; omega)) (fun W kk => ?_) (fun W kk => ?_)
    · have := hget_any (hbW W kk).he (refW M i) hd.lt (k : Nat)
      rw [hget] at this
      exact this
    · have bW := hbW W kk
      have := rooted_any bW (by omega) (refW M ((ob M i).refs.getD k 0)) q3 q1
      rw [q2] at this
      refine this.mono ?_
      rintro e w' ⟨rfl, q, t4, st4, H4, C4, low, b4, kp1, kp2⟩
      have hz := (box_below w _ W kk).2
      have hg' : ∀ g, st g ≠ 0 → st g ≠ 1 → st g ≠ 3 → w'.heap[g]? = W.heap[g]? := fun g e h1 h3 => kp1 g (bW.sh.un g e) (b.ap g e) h1 h3
      have hsN : st w.heap.size = 0 := by
        by_cases q : st w.heap.size = 0
        · exact q
        · exact absurd (b.sh.un _ q) (Nat.lt_irrefl _)
      refine ⟨rfl, kp2 1 (by decide), hg' gN (by rw [tN]; decide) (by rw [tN]; decide) (by rw [tN]; decide), kp1 _ hz (tag_new b) (by rw [hsN]; decide) (by rw [hsN]; decide), hg' ga (by rw [ta]; omega) (by rw [ta]; omega) (by rw [ta]; omega), t4, st4, _, H4, ns, C4, b4, bd.same rfl rfl rfl rfl ?_⟩
      show (poolPut M.roots q _).length ≤ _
      rw [poolPut_length]; split <;> omega

end Go.Proofs.YtidfllgaeiopjaaGreat
namespace Go.Proofs.YtidfllgaeiopjaaGreat
open Go.ChangeShapes Go.WideShapes Go.ChangeAt Go.RowKit
set_option linter.unusedVariables false
set_option maxRecDepth 100000
set_option maxHeartbeats 1000000

/-- the data of a move: a list of bytes of what came in -/
structure DataOk (w0 : World) (A : Int) (vv : Nat) (da : Option Addr) (dc : Nat) (d : List Nat) : Prop where
  a1 : -9223372036854775808 ≤ A
  a2 : A ≤ 9223372036854775807
  vl : vv < 18446744073709551616
  dl : d.length ≤ 140737488355328
  sm : Small d
  by' : Bytes w0 da d
  nl : da = none → dc = 0

theorem changes_any {w0 : Kp} {w : World} {ps ph : Nat} {tag st : Nat → Nat} {M : Hp} {H : HC} {ns : List (Nat × List Nat × List Nat)} {limit last : Nat} {C : ShC} (b : Both0 w0 w ps ph tag st M H ns limit last C) {n : Nat} (bd : Bnd M n) (hn : n ≤ 10000) (dd A B Cc hh gg : Int) (vv : Nat) (da : Option Addr) (dc : Nat) (d : List Nat) (ok : DataOk w0.w A vv da dc d) (hdo : dd = 2 ∨ dd = 3 ∨ dd = 4 ∨ dd = 7) :
    Calls Tryz.prog 32 #[.pointer (some ⟨ps, 0, none⟩), mvV dd A B Cc hh gg vv (.slice da d.length dc)] w fun e w' => e = .returned (.bool true) ∧ After w0 ps ph limit last n w' := by
  have hrt := bd.rt
  have none1 : heldV M.roots (handN M.roots.length hh) < 1 → Calls Tryz.prog 32 #[.pointer (some ⟨ps, 0, none⟩), mvV dd A B Cc hh gg vv (.slice da d.length dc)] w fun e w' => e = .returned (.bool true) ∧ After w0 ps ph limit last n w' := fun hx => by
    have hbW : ∀ W, Below (w.heap.size + 1) (w.alloc (mvB dd A B Cc hh gg vv (.slice da d.length dc))) W → Both0 w0 W ps ph tag st M H ns limit last C := fun W k => b.below (box_below w _ W k).1
    exact changes_none dd A B Cc hh gg vv (.slice da d.length dc) hx (fun W k => hand_any (hbW W k).sh (by omega) hh) (fun W k => held_any (hbW W k).sh (by omega) _) (fun W k => After.below b bd k)
  rcases held_cases M.roots (handN M.roots.length hh) with hx | ⟨m, i, e1, hm, hri, e2⟩
  · exact none1 (by rw [hx]; decide)
  · by_cases h1 : i < 1
    · exact none1 (by rw [e2]; omega)
    · have h1' : 1 ≤ i := by omega
      rcases hdo with rfl | rfl | rfl | rfl
      · exact link_any b bd hn A B Cc hh gg vv _ e1 hm hri h1' e2
      · exact lay_any b bd hn A B Cc hh gg vv _ e1 hm hri h1' e2 ok.vl
      · exact write_any b bd hn A B Cc hh gg vv da dc d ok.a1 ok.a2 ok.dl ok.sm ok.by' ok.nl e1 hm hri h1' e2
      · exact follow_any b bd hn A B Cc hh gg vv _ e1 hm hri h1' e2
end Go.Proofs.YtidfllgaeiopjaaGreat
namespace Go.Proofs.YtidfllgaeiopjaaGreat
open Go.ChangeShapes Go.WideShapes Go.ChangeAt Go.RowKit
set_option linter.unusedVariables false
set_option linter.unusedSimpArgs false
set_option maxRecDepth 100000
set_option maxHeartbeats 1000000

/-- what step reads -/
structure LimbS (ps ph b : Nat) (dd A B Cc hh gg : Int) (vv : Nat) (dv vH : Value) (W : World) : Prop where
  c0 : W.cell? ⟨ps, 0, none⟩ = some (.pointer (some ⟨ph, 0, none⟩))
  c2 : W.cell? ⟨ps, 2, none⟩ = some vH
  bx : Boxed W b dd A B Cc hh gg vv dv
theorem LimbS.like {ps ph b : Nat} {dd A B Cc hh gg : Int} {vv : Nat} {dv vH : Value} {W W' : World} (h : LimbS ps ph b dd A B Cc hh gg vv dv vH W) (e1 : W'.heap[ps]? = W.heap[ps]?) (e2 : W'.heap[b]? = W.heap[b]?) : LimbS ps ph b dd A B Cc hh gg vv dv vH W' :=
  ⟨by rw [← h.c0]; simp only [World.cell?, e1], by rw [← h.c2]; simp only [World.cell?, e1], h.bx.same e2⟩

theorem step_make {w : World} {ps ph : Nat} (A B Cc hh gg : Int) (vv : Nat) (dv vH : Value) (hod : dv.oneCell' = true) {hn : Int} (c0 : w.cell? ⟨ps, 0, none⟩ = some (.pointer (some ⟨ph, 0, none⟩))) (c2 : w.cell? ⟨ps, 2, none⟩ = some vH) (c4 : ∃ x, w.cell? ⟨ps, 4, none⟩ = some x) (f4 : w.frozen? ⟨ps, 4, none⟩ = false)
    (H30 : ∀ W, Below (w.heap.size + 1) ((w.setCell ⟨ps, 4, none⟩ (.int .i64 0)).alloc (mvB 1 A B Cc hh gg vv dv)) W → Calls Tryz.prog 30 #[.pointer (some ⟨ps, 0, none⟩), .int .i64 hh] W fun e w' => e = .returned (.int .i64 hn) ∧ Still W w')
     {R : World → Prop} (HC : ∀ W, Below (w.heap.size + 1) ((w.setCell ⟨ps, 4, none⟩ (.int .i64 0)).alloc (mvB 1 A B Cc hh gg vv dv)) W → Calls Tryz.prog 31 #[.pointer (some ⟨ps, 0, none⟩), mvV 1 A B Cc hh gg vv dv] W fun e w' => e = .returned (.bool true) ∧ R w' ) :
    Calls Tryz.prog 12 #[.pointer (some ⟨ps, 0, none⟩), mvV 1 A B Cc hh gg vv dv] w fun e w' => e = .returned (.bool true) ∧ R w' := by
  have hpl : ps < w.heap.size := block_lt_of_cell c0
  have hb : Below w.heap.size w (w.alloc (mvB 1 A B Cc hh gg vv dv)) := (Below.refl _ _).alloc (Nat.le_refl _) _
  have hz0 : (w.setCell ⟨ps, 4, none⟩ (.int .i64 0)).heap.size = w.heap.size := World.size_setCell _ _ _
  have hsz : ((w.setCell ⟨ps, 4, none⟩ (.int .i64 0)).alloc (mvB 1 A B Cc hh gg vv dv)).heap.size = w.heap.size + 1 := by simp
  have hb1 : Below w.heap.size (w.setCell ⟨ps, 4, none⟩ (.int .i64 0)) ((w.setCell ⟨ps, 4, none⟩ (.int .i64 0)).alloc (mvB 1 A B Cc hh gg vv dv)) := by rw [← hz0]; exact (Below.refl _ _).alloc (Nat.le_refl _) _
  have L0 : LimbS ps ph w.heap.size 1 A B Cc hh gg vv dv vH ((w.setCell ⟨ps, 4, none⟩ (.int .i64 0)).alloc (mvB 1 A B Cc hh gg vv dv)) := by
    refine ⟨?_, ?_, ?_⟩
    · rw [hb1.cell (p := ⟨ps, 0, none⟩) hpl, World.cell?_setCell_other _ _ _ _ (by simp)]; exact c0
    · rw [hb1.cell (p := ⟨ps, 2, none⟩) hpl, World.cell?_setCell_other _ _ _ _ (by simp)]; exact c2
    · have := Boxed.new (w.setCell ⟨ps, 4, none⟩ (.int .i64 0)) 1 A B Cc hh gg vv dv
      rw [hz0] at this
      exact this
  have hL : ∀ W, Below (w.heap.size + 1) ((w.setCell ⟨ps, 4, none⟩ (.int .i64 0)).alloc (mvB 1 A B Cc hh gg vv dv)) W → LimbS ps ph w.heap.size 1 A B Cc hh gg vv dv vH W := fun W k => L0.like (k.block ps (by omega)) (k.block w.heap.size (by omega))
  have hOn : ∀ W w', Below (w.heap.size + 1) ((w.setCell ⟨ps, 4, none⟩ (.int .i64 0)).alloc (mvB 1 A B Cc hh gg vv dv)) W → Below W.heap.size W w' → Below (w.heap.size + 1) ((w.setCell ⟨ps, 4, none⟩ (.int .i64 0)).alloc (mvB 1 A B Cc hh gg vv dv)) w' := fun W w' k q => k.trans (q.mono (by have := k.size; rw [hsz] at this; exact this))
  obtain ⟨x4, c4⟩ := c4
  have a0 := (hb.cell (p := ⟨ps, 4, none⟩) hpl).trans c4
  have a1 : (w.alloc (mvB 1 A B Cc hh gg vv dv)).frozen? ⟨ps, 4, none⟩ = false := by rw [← f4]; simp only [World.frozen?, hb.block ps hpl]
  have H30' : Hid (∀ W, Hid (Below (w.heap.size + 1) ((w.setCell ⟨ps, 4, none⟩ (.int .i64 0)).alloc (mvB 1 A B Cc hh gg vv dv)) W) → Calls Tryz.prog 30 #[.pointer (some ⟨ps, 0, none⟩), .int .i64 hh] W fun e w' => e = .returned (.int .i64 hn) ∧ Hid (Below (w.heap.size + 1) ((w.setCell ⟨ps, 4, none⟩ (.int .i64 0)).alloc (mvB 1 A B Cc hh gg vv dv)) w') ∧ LimbS ps ph w.heap.size 1 A B Cc hh gg vv dv vH w') := hide (fun W hW => (H30 W (unhide hW)).mono fun e w' ⟨q1, q2⟩ => ⟨q1, hide (hOn W w' (unhide hW) q2.below), hL w' (hOn W w' (unhide hW) q2.below)⟩)
  have HC' : Hid (∀ W, Hid (Below (w.heap.size + 1) ((w.setCell ⟨ps, 4, none⟩ (.int .i64 0)).alloc (mvB 1 A B Cc hh gg vv dv)) W) → Calls Tryz.prog 31 #[.pointer (some ⟨ps, 0, none⟩), mvV 1 A B Cc hh gg vv dv] W fun e w' => e = .returned (.bool true) ∧ R w' ) := hide (fun W hW => HC W (unhide hW))
  unfold mvV at HC'
  have hO0 : Hid (Below (w.heap.size + 1) ((w.setCell ⟨ps, 4, none⟩ (.int .i64 0)).alloc (mvB 1 A B Cc hh gg vv dv)) ((w.setCell ⟨ps, 4, none⟩ (.int .i64 0)).alloc (mvB 1 A B Cc hh gg vv dv))) := hide (Below.refl _ _)
  clear H30 hOn hL hb hb1 hz0 hsz L0 c0 c2 c4 f4 HC
  unfold mvV
  unfold mvB at H30' hO0 a0 a1 HC'
  go_enter Tryz.func12, Tryz.ntmps12
  go_wp2_with fail
  refine (unhide H30' _ hO0).mono ?_
  clear hO0 a0 a1
  rintro e w1 ⟨rfl, hO1, ⟨x0, x2, ⟨r0, r1, r2, r3, r4, r5, r6, r7⟩⟩⟩
  go_wp2_with fail
  refine (unhide HC' _ hO1).mono ?_
  rintro e w2 ⟨rfl, hR⟩
  go_wp2_with fail
  go_ret
  exact ⟨rfl, hR⟩

theorem step_change {w : World} {ps ph : Nat} (dd A B Cc hh gg : Int) (vv : Nat) (dv vH : Value) (hod : dv.oneCell' = true) {hn : Int} (c0 : w.cell? ⟨ps, 0, none⟩ = some (.pointer (some ⟨ph, 0, none⟩))) (c2 : w.cell? ⟨ps, 2, none⟩ = some vH) (c4 : ∃ x, w.cell? ⟨ps, 4, none⟩ = some x) (f4 : w.frozen? ⟨ps, 4, none⟩ = false)
    (H30 : ∀ W, Below (w.heap.size + 1) ((w.setCell ⟨ps, 4, none⟩ (.int .i64 0)).alloc (mvB dd A B Cc hh gg vv dv)) W → Calls Tryz.prog 30 #[.pointer (some ⟨ps, 0, none⟩), .int .i64 hh] W fun e w' => e = .returned (.int .i64 hn) ∧ Still W w')
     {R : World → Prop} (hdo : dd = 2 ∨ dd = 3 ∨ dd = 4 ∨ dd = 7) (HC : ∀ W, Below (w.heap.size + 1) ((w.setCell ⟨ps, 4, none⟩ (.int .i64 0)).alloc (mvB dd A B Cc hh gg vv dv)) W → Calls Tryz.prog 32 #[.pointer (some ⟨ps, 0, none⟩), mvV dd A B Cc hh gg vv dv] W fun e w' => e = .returned (.bool true) ∧ R w' ) :
    Calls Tryz.prog 12 #[.pointer (some ⟨ps, 0, none⟩), mvV dd A B Cc hh gg vv dv] w fun e w' => e = .returned (.bool true) ∧ R w' := by
  have hpl : ps < w.heap.size := block_lt_of_cell c0
  have hb : Below w.heap.size w (w.alloc (mvB dd A B Cc hh gg vv dv)) := (Below.refl _ _).alloc (Nat.le_refl _) _
  have hz0 : (w.setCell ⟨ps, 4, none⟩ (.int .i64 0)).heap.size = w.heap.size := World.size_setCell _ _ _
  have hsz : ((w.setCell ⟨ps, 4, none⟩ (.int .i64 0)).alloc (mvB dd A B Cc hh gg vv dv)).heap.size = w.heap.size + 1 := by simp
  have hb1 : Below w.heap.size (w.setCell ⟨ps, 4, none⟩ (.int .i64 0)) ((w.setCell ⟨ps, 4, none⟩ (.int .i64 0)).alloc (mvB dd A B Cc hh gg vv dv)) := by rw [← hz0]; exact (Below.refl _ _).alloc (Nat.le_refl _) _
  have L0 : LimbS ps ph w.heap.size dd A B Cc hh gg vv dv vH ((w.setCell ⟨ps, 4, none⟩ (.int .i64 0)).alloc (mvB dd A B Cc hh gg vv dv)) := by
    refine ⟨?_, ?_, ?_⟩
    · rw [hb1.cell (p := ⟨ps, 0, none⟩) hpl, World.cell?_setCell_other _ _ _ _ (by simp)]; exact c0
    · rw [hb1.cell (p := ⟨ps, 2, none⟩) hpl, World.cell?_setCell_other _ _ _ _ (by simp)]; exact c2
    · have := Boxed.new (w.setCell ⟨ps, 4, none⟩ (.int .i64 0)) dd A B Cc hh gg vv dv
      rw [hz0] at this
      exact this
  have hL : ∀ W, Below (w.heap.size + 1) ((w.setCell ⟨ps, 4, none⟩ (.int .i64 0)).alloc (mvB dd A B Cc hh gg vv dv)) W → LimbS ps ph w.heap.size dd A B Cc hh gg vv dv vH W := fun W k => L0.like (k.block ps (by omega)) (k.block w.heap.size (by omega))
  have hOn : ∀ W w', Below (w.heap.size + 1) ((w.setCell ⟨ps, 4, none⟩ (.int .i64 0)).alloc (mvB dd A B Cc hh gg vv dv)) W → Below W.heap.size W w' → Below (w.heap.size + 1) ((w.setCell ⟨ps, 4, none⟩ (.int .i64 0)).alloc (mvB dd A B Cc hh gg vv dv)) w' := fun W w' k q => k.trans (q.mono (by have := k.size; rw [hsz] at this; exact this))
  obtain ⟨x4, c4⟩ := c4
  have a0 := (hb.cell (p := ⟨ps, 4, none⟩) hpl).trans c4
  have a1 : (w.alloc (mvB dd A B Cc hh gg vv dv)).frozen? ⟨ps, 4, none⟩ = false := by rw [← f4]; simp only [World.frozen?, hb.block ps hpl]
  have H30' : Hid (∀ W, Hid (Below (w.heap.size + 1) ((w.setCell ⟨ps, 4, none⟩ (.int .i64 0)).alloc (mvB dd A B Cc hh gg vv dv)) W) → Calls Tryz.prog 30 #[.pointer (some ⟨ps, 0, none⟩), .int .i64 hh] W fun e w' => e = .returned (.int .i64 hn) ∧ Hid (Below (w.heap.size + 1) ((w.setCell ⟨ps, 4, none⟩ (.int .i64 0)).alloc (mvB dd A B Cc hh gg vv dv)) w') ∧ LimbS ps ph w.heap.size dd A B Cc hh gg vv dv vH w') := hide (fun W hW => (H30 W (unhide hW)).mono fun e w' ⟨q1, q2⟩ => ⟨q1, hide (hOn W w' (unhide hW) q2.below), hL w' (hOn W w' (unhide hW) q2.below)⟩)
  have HC' : Hid (∀ W, Hid (Below (w.heap.size + 1) ((w.setCell ⟨ps, 4, none⟩ (.int .i64 0)).alloc (mvB dd A B Cc hh gg vv dv)) W) → Calls Tryz.prog 32 #[.pointer (some ⟨ps, 0, none⟩), mvV dd A B Cc hh gg vv dv] W fun e w' => e = .returned (.bool true) ∧ R w' ) := hide (fun W hW => HC W (unhide hW))
  unfold mvV at HC'
  have HDO := hide hdo
  have hO0 : Hid (Below (w.heap.size + 1) ((w.setCell ⟨ps, 4, none⟩ (.int .i64 0)).alloc (mvB dd A B Cc hh gg vv dv)) ((w.setCell ⟨ps, 4, none⟩ (.int .i64 0)).alloc (mvB dd A B Cc hh gg vv dv))) := hide (Below.refl _ _)
  clear H30 hOn hL hb hb1 hz0 hsz L0 c0 c2 c4 f4 HC hdo
  unfold mvV
  unfold mvB at H30' hO0 a0 a1 HC'
  go_enter Tryz.func12, Tryz.ntmps12
  go_wp2_with fail
  refine (unhide H30' _ hO0).mono ?_
  clear hO0 a0 a1
  rintro e w1 ⟨rfl, hO1, ⟨x0, x2, ⟨r0, r1, r2, r3, r4, r5, r6, r7⟩⟩⟩
  rcases unhide HDO with rfl | rfl | rfl | rfl
  all_goals clear HDO
  all_goals go_wp2_with fail
  all_goals refine (unhide HC' _ hO1).mono ?_
  all_goals rintro e w2 ⟨rfl, hR⟩
  all_goals go_wp2_with fail
  all_goals go_ret
  all_goals exact ⟨rfl, hR⟩
end Go.Proofs.YtidfllgaeiopjaaGreat
namespace Go.Proofs.YtidfllgaeiopjaaGreat
open Go.ChangeShapes Go.WideShapes Go.ChangeAt Go.RowKit
set_option linter.unusedVariables false
set_option linter.unusedSimpArgs false
set_option maxRecDepth 100000
set_option maxHeartbeats 1000000

theorem step_put0 {w : World} {ps ph : Nat} (A B Cc hh gg : Int) (vv : Nat) (dv vH : Value) (hod : dv.oneCell' = true) {hn : Int} (c0 : w.cell? ⟨ps, 0, none⟩ = some (.pointer (some ⟨ph, 0, none⟩))) (c2 : w.cell? ⟨ps, 2, none⟩ = some vH) (c4 : ∃ x, w.cell? ⟨ps, 4, none⟩ = some x) (f4 : w.frozen? ⟨ps, 4, none⟩ = false)
    (H30 : ∀ W, Below (w.heap.size + 1) ((w.setCell ⟨ps, 4, none⟩ (.int .i64 0)).alloc (mvB 6 A B Cc hh gg vv dv)) W → Calls Tryz.prog 30 #[.pointer (some ⟨ps, 0, none⟩), .int .i64 hh] W fun e w' => e = .returned (.int .i64 hn) ∧ Still W w')
    {hv : Int} (H33 : ∀ W, Below (w.heap.size + 1) ((w.setCell ⟨ps, 4, none⟩ (.int .i64 0)).alloc (mvB 6 A B Cc hh gg vv dv)) W → Calls Tryz.prog 33 #[.pointer (some ⟨ps, 0, none⟩), .int .i64 hn] W fun e w' => e = .returned (.int .i64 hv) ∧ Still W w' ) {hg tn : Int} (H30g : ∀ W, Below (w.heap.size + 1) ((w.setCell ⟨ps, 4, none⟩ (.int .i64 0)).alloc (mvB 6 A B Cc hh gg vv dv)) W → Calls Tryz.prog 30 #[.pointer (some ⟨ps, 0, none⟩), .int .i64 gg] W fun e w' => e = .returned (.int .i64 hg) ∧ Still W w') (H33g : ∀ W, Below (w.heap.size + 1) ((w.setCell ⟨ps, 4, none⟩ (.int .i64 0)).alloc (mvB 6 A B Cc hh gg vv dv)) W → Calls Tryz.prog 33 #[.pointer (some ⟨ps, 0, none⟩), .int .i64 hg] W fun e w' => e = .returned (.int .i64 tn) ∧ Still W w' ) {R : World → Prop} (hneg : hv < 0 ∨ tn < 0) (HR : ∀ W, Below (w.heap.size + 1) ((w.setCell ⟨ps, 4, none⟩ (.int .i64 0)).alloc (mvB 6 A B Cc hh gg vv dv)) W → R W) :
    Calls Tryz.prog 12 #[.pointer (some ⟨ps, 0, none⟩), mvV 6 A B Cc hh gg vv dv] w fun e w' => e = .returned (.bool true) ∧ R w' := by
  have hpl : ps < w.heap.size := block_lt_of_cell c0
  have hb : Below w.heap.size w (w.alloc (mvB 6 A B Cc hh gg vv dv)) := (Below.refl _ _).alloc (Nat.le_refl _) _
  have hz0 : (w.setCell ⟨ps, 4, none⟩ (.int .i64 0)).heap.size = w.heap.size := World.size_setCell _ _ _
  have hsz : ((w.setCell ⟨ps, 4, none⟩ (.int .i64 0)).alloc (mvB 6 A B Cc hh gg vv dv)).heap.size = w.heap.size + 1 := by simp
  have hb1 : Below w.heap.size (w.setCell ⟨ps, 4, none⟩ (.int .i64 0)) ((w.setCell ⟨ps, 4, none⟩ (.int .i64 0)).alloc (mvB 6 A B Cc hh gg vv dv)) := by rw [← hz0]; exact (Below.refl _ _).alloc (Nat.le_refl _) _
  have L0 : LimbS ps ph w.heap.size 6 A B Cc hh gg vv dv vH ((w.setCell ⟨ps, 4, none⟩ (.int .i64 0)).alloc (mvB 6 A B Cc hh gg vv dv)) := by
    refine ⟨?_, ?_, ?_⟩
    · rw [hb1.cell (p := ⟨ps, 0, none⟩) hpl, World.cell?_setCell_other _ _ _ _ (by simp)]; exact c0
    · rw [hb1.cell (p := ⟨ps, 2, none⟩) hpl, World.cell?_setCell_other _ _ _ _ (by simp)]; exact c2
    · have := Boxed.new (w.setCell ⟨ps, 4, none⟩ (.int .i64 0)) 6 A B Cc hh gg vv dv
      rw [hz0] at this
      exact this
  have hL : ∀ W, Below (w.heap.size + 1) ((w.setCell ⟨ps, 4, none⟩ (.int .i64 0)).alloc (mvB 6 A B Cc hh gg vv dv)) W → LimbS ps ph w.heap.size 6 A B Cc hh gg vv dv vH W := fun W k => L0.like (k.block ps (by omega)) (k.block w.heap.size (by omega))
  have hOn : ∀ W w', Below (w.heap.size + 1) ((w.setCell ⟨ps, 4, none⟩ (.int .i64 0)).alloc (mvB 6 A B Cc hh gg vv dv)) W → Below W.heap.size W w' → Below (w.heap.size + 1) ((w.setCell ⟨ps, 4, none⟩ (.int .i64 0)).alloc (mvB 6 A B Cc hh gg vv dv)) w' := fun W w' k q => k.trans (q.mono (by have := k.size; rw [hsz] at this; exact this))
  obtain ⟨x4, c4⟩ := c4
  have a0 := (hb.cell (p := ⟨ps, 4, none⟩) hpl).trans c4
  have a1 : (w.alloc (mvB 6 A B Cc hh gg vv dv)).frozen? ⟨ps, 4, none⟩ = false := by rw [← f4]; simp only [World.frozen?, hb.block ps hpl]
  have H30' : Hid (∀ W, Hid (Below (w.heap.size + 1) ((w.setCell ⟨ps, 4, none⟩ (.int .i64 0)).alloc (mvB 6 A B Cc hh gg vv dv)) W) → Calls Tryz.prog 30 #[.pointer (some ⟨ps, 0, none⟩), .int .i64 hh] W fun e w' => e = .returned (.int .i64 hn) ∧ Hid (Below (w.heap.size + 1) ((w.setCell ⟨ps, 4, none⟩ (.int .i64 0)).alloc (mvB 6 A B Cc hh gg vv dv)) w') ∧ LimbS ps ph w.heap.size 6 A B Cc hh gg vv dv vH w') := hide (fun W hW => (H30 W (unhide hW)).mono fun e w' ⟨q1, q2⟩ => ⟨q1, hide (hOn W w' (unhide hW) q2.below), hL w' (hOn W w' (unhide hW) q2.below)⟩)
  have H33' : Hid (∀ W, Hid (Below (w.heap.size + 1) ((w.setCell ⟨ps, 4, none⟩ (.int .i64 0)).alloc (mvB 6 A B Cc hh gg vv dv)) W) → Calls Tryz.prog 33 #[.pointer (some ⟨ps, 0, none⟩), .int .i64 hn] W fun e w' => e = .returned (.int .i64 hv) ∧ Hid (Below (w.heap.size + 1) ((w.setCell ⟨ps, 4, none⟩ (.int .i64 0)).alloc (mvB 6 A B Cc hh gg vv dv)) w') ∧ LimbS ps ph w.heap.size 6 A B Cc hh gg vv dv vH w') := hide (fun W hW => (H33 W (unhide hW)).mono fun e w' ⟨q1, q2⟩ => ⟨q1, hide (hOn W w' (unhide hW) q2.below), hL w' (hOn W w' (unhide hW) q2.below)⟩)
  have H30g' : Hid (∀ W, Hid (Below (w.heap.size + 1) ((w.setCell ⟨ps, 4, none⟩ (.int .i64 0)).alloc (mvB 6 A B Cc hh gg vv dv)) W) → Calls Tryz.prog 30 #[.pointer (some ⟨ps, 0, none⟩), .int .i64 gg] W fun e w' => e = .returned (.int .i64 hg) ∧ Hid (Below (w.heap.size + 1) ((w.setCell ⟨ps, 4, none⟩ (.int .i64 0)).alloc (mvB 6 A B Cc hh gg vv dv)) w') ∧ LimbS ps ph w.heap.size 6 A B Cc hh gg vv dv vH w') := hide (fun W hW => (H30g W (unhide hW)).mono fun e w' ⟨q1, q2⟩ => ⟨q1, hide (hOn W w' (unhide hW) q2.below), hL w' (hOn W w' (unhide hW) q2.below)⟩)
  have H33g' : Hid (∀ W, Hid (Below (w.heap.size + 1) ((w.setCell ⟨ps, 4, none⟩ (.int .i64 0)).alloc (mvB 6 A B Cc hh gg vv dv)) W) → Calls Tryz.prog 33 #[.pointer (some ⟨ps, 0, none⟩), .int .i64 hg] W fun e w' => e = .returned (.int .i64 tn) ∧ Hid (Below (w.heap.size + 1) ((w.setCell ⟨ps, 4, none⟩ (.int .i64 0)).alloc (mvB 6 A B Cc hh gg vv dv)) w') ∧ LimbS ps ph w.heap.size 6 A B Cc hh gg vv dv vH w') := hide (fun W hW => (H33g W (unhide hW)).mono fun e w' ⟨q1, q2⟩ => ⟨q1, hide (hOn W w' (unhide hW) q2.below), hL w' (hOn W w' (unhide hW) q2.below)⟩)
  have HR' : Hid (∀ W, Hid (Below (w.heap.size + 1) ((w.setCell ⟨ps, 4, none⟩ (.int .i64 0)).alloc (mvB 6 A B Cc hh gg vv dv)) W) → R W) := hide (fun W hW => HR W (unhide hW))
  have hO0 : Hid (Below (w.heap.size + 1) ((w.setCell ⟨ps, 4, none⟩ (.int .i64 0)).alloc (mvB 6 A B Cc hh gg vv dv)) ((w.setCell ⟨ps, 4, none⟩ (.int .i64 0)).alloc (mvB 6 A B Cc hh gg vv dv))) := hide (Below.refl _ _)
  clear H30 hOn hL hb hb1 hz0 hsz L0 c0 c2 c4 f4 HR H33 H30g H33g
  unfold mvV
  unfold mvB at H30' hO0 a0 a1 H33' HR' H30g' H33g'
  go_enter Tryz.func12, Tryz.ntmps12
  go_wp2_with fail
  refine (unhide H30' _ hO0).mono ?_
  clear hO0 a0 a1
  rintro e w1 ⟨rfl, hO1, ⟨x0, x2, ⟨r0, r1, r2, r3, r4, r5, r6, r7⟩⟩⟩
  go_wp2_with fail
  refine (unhide H30g' _ hO1).mono ?_
  rintro e w2 ⟨rfl, hO2, ⟨x0, x2, ⟨r0, r1, r2, r3, r4, r5, r6, r7⟩⟩⟩
  go_wp2_with fail
  refine (unhide H33g' _ hO2).mono ?_
  rintro e w3 ⟨rfl, hO3, ⟨x0, x2, ⟨r0, r1, r2, r3, r4, r5, r6, r7⟩⟩⟩
  by_cases h1 : hv < 0
  · have t1 : decide (hv < 0) = true := decide_eq_true h1
    go_wp2_with fail
    refine (unhide H33' _ hO3).mono ?_
    rintro e w4 ⟨rfl, hO4, ⟨x0, x2, ⟨r0, r1, r2, r3, r4, r5, r6, r7⟩⟩⟩
    go_wp2_with fail
    go_ret
    exact ⟨rfl, unhide HR' _ hO4⟩
  · have t1 : decide (hv < 0) = false := decide_eq_false h1
    have t2 : decide (tn < 0) = true := decide_eq_true (by omega)
    go_wp2_with fail
    refine (unhide H33' _ hO3).mono ?_
    rintro e w4 ⟨rfl, hO4, ⟨x0, x2, ⟨r0, r1, r2, r3, r4, r5, r6, r7⟩⟩⟩
    go_wp2_with fail
    go_ret
    exact ⟨rfl, unhide HR' _ hO4⟩

theorem step_put {w : World} {ps ph : Nat} (A B Cc hh gg : Int) (vv : Nat) (dv vH : Value) (hod : dv.oneCell' = true) {hn : Int} (c0 : w.cell? ⟨ps, 0, none⟩ = some (.pointer (some ⟨ph, 0, none⟩))) (c2 : w.cell? ⟨ps, 2, none⟩ = some vH) (c4 : ∃ x, w.cell? ⟨ps, 4, none⟩ = some x) (f4 : w.frozen? ⟨ps, 4, none⟩ = false)
    (H30 : ∀ W, Below (w.heap.size + 1) ((w.setCell ⟨ps, 4, none⟩ (.int .i64 0)).alloc (mvB 6 A B Cc hh gg vv dv)) W → Calls Tryz.prog 30 #[.pointer (some ⟨ps, 0, none⟩), .int .i64 hh] W fun e w' => e = .returned (.int .i64 hn) ∧ Still W w')
    {hv : Int} (H33 : ∀ W, Below (w.heap.size + 1) ((w.setCell ⟨ps, 4, none⟩ (.int .i64 0)).alloc (mvB 6 A B Cc hh gg vv dv)) W → Calls Tryz.prog 33 #[.pointer (some ⟨ps, 0, none⟩), .int .i64 hn] W fun e w' => e = .returned (.int .i64 hv) ∧ Still W w' ) {hg tn : Int} (H30g : ∀ W, Below (w.heap.size + 1) ((w.setCell ⟨ps, 4, none⟩ (.int .i64 0)).alloc (mvB 6 A B Cc hh gg vv dv)) W → Calls Tryz.prog 30 #[.pointer (some ⟨ps, 0, none⟩), .int .i64 gg] W fun e w' => e = .returned (.int .i64 hg) ∧ Still W w') (H33g : ∀ W, Below (w.heap.size + 1) ((w.setCell ⟨ps, 4, none⟩ (.int .i64 0)).alloc (mvB 6 A B Cc hh gg vv dv)) W → Calls Tryz.prog 33 #[.pointer (some ⟨ps, 0, none⟩), .int .i64 hg] W fun e w' => e = .returned (.int .i64 tn) ∧ Still W w' ) {v : Nat} (H28g : ∀ W, Below (w.heap.size + 1) ((w.setCell ⟨ps, 4, none⟩ (.int .i64 0)).alloc (mvB 6 A B Cc hh gg vv dv)) W → Calls Tryz.prog 28 #[.pointer (some ⟨ph, 0, none⟩), .int .i64 hg] W fun e w' => e = .returned (.tuple #[.int .u64 (v : Nat), .int .i64 0]) ∧ Below W.heap.size W w' ) {m gH lh ch : Nat} {xH : Value} {G : World → Prop} (hvH : vH = .slice (some ⟨gH, 0, none⟩) lh ch) (hml : m < lh) (hlh : lh ≤ 1000000) (hhn : hn = (m : Nat) + 1) (cH : w.cell? ⟨gH, m, none⟩ = some xH) (fH : w.frozen? ⟨gH, m, none⟩ = false) (ngp : gH ≠ ps) (HC : ∀ W, Below (w.heap.size + 1) ((w.setCell ⟨ps, 4, none⟩ (.int .i64 0)).alloc (mvB 6 A B Cc hh gg vv dv)) W → Calls Tryz.prog 35 #[.pointer (some ⟨ph, 0, none⟩), .int .i64 hn, .int .u64 (v : Nat)] W fun e w' => e = .returned (.int .i64 0) ∧ w'.heap[ps]? = W.heap[ps]? ∧ w'.heap[w.heap.size]? = W.heap[w.heap.size]? ∧ w'.heap[gH]? = W.heap[gH]? ∧ G w' ) {R : World → Prop} (hneg : 0 ≤ hv) (hneg2 : 0 ≤ tn) (HR : ∀ w5, G w5 → ∀ W, Still (w5.setCell ⟨gH, m, none⟩ (.int .i64 tn)) W → R W) :
    Calls Tryz.prog 12 #[.pointer (some ⟨ps, 0, none⟩), mvV 6 A B Cc hh gg vv dv] w fun e w' => e = .returned (.bool true) ∧ R w' := by
  have hpl : ps < w.heap.size := block_lt_of_cell c0
  have hb : Below w.heap.size w (w.alloc (mvB 6 A B Cc hh gg vv dv)) := (Below.refl _ _).alloc (Nat.le_refl _) _
  have hz0 : (w.setCell ⟨ps, 4, none⟩ (.int .i64 0)).heap.size = w.heap.size := World.size_setCell _ _ _
  have hsz : ((w.setCell ⟨ps, 4, none⟩ (.int .i64 0)).alloc (mvB 6 A B Cc hh gg vv dv)).heap.size = w.heap.size + 1 := by simp
  have hb1 : Below w.heap.size (w.setCell ⟨ps, 4, none⟩ (.int .i64 0)) ((w.setCell ⟨ps, 4, none⟩ (.int .i64 0)).alloc (mvB 6 A B Cc hh gg vv dv)) := by rw [← hz0]; exact (Below.refl _ _).alloc (Nat.le_refl _) _
  have L0 : LimbS ps ph w.heap.size 6 A B Cc hh gg vv dv vH ((w.setCell ⟨ps, 4, none⟩ (.int .i64 0)).alloc (mvB 6 A B Cc hh gg vv dv)) := by
    refine ⟨?_, ?_, ?_⟩
    · rw [hb1.cell (p := ⟨ps, 0, none⟩) hpl, World.cell?_setCell_other _ _ _ _ (by simp)]; exact c0
    · rw [hb1.cell (p := ⟨ps, 2, none⟩) hpl, World.cell?_setCell_other _ _ _ _ (by simp)]; exact c2
    · have := Boxed.new (w.setCell ⟨ps, 4, none⟩ (.int .i64 0)) 6 A B Cc hh gg vv dv
      rw [hz0] at this
      exact this
  have hL : ∀ W, Below (w.heap.size + 1) ((w.setCell ⟨ps, 4, none⟩ (.int .i64 0)).alloc (mvB 6 A B Cc hh gg vv dv)) W → LimbS ps ph w.heap.size 6 A B Cc hh gg vv dv vH W := fun W k => L0.like (k.block ps (by omega)) (k.block w.heap.size (by omega))
  have hOn : ∀ W w', Below (w.heap.size + 1) ((w.setCell ⟨ps, 4, none⟩ (.int .i64 0)).alloc (mvB 6 A B Cc hh gg vv dv)) W → Below W.heap.size W w' → Below (w.heap.size + 1) ((w.setCell ⟨ps, 4, none⟩ (.int .i64 0)).alloc (mvB 6 A B Cc hh gg vv dv)) w' := fun W w' k q => k.trans (q.mono (by have := k.size; rw [hsz] at this; exact this))
  obtain ⟨x4, c4⟩ := c4
  have a0 := (hb.cell (p := ⟨ps, 4, none⟩) hpl).trans c4
  have a1 : (w.alloc (mvB 6 A B Cc hh gg vv dv)).frozen? ⟨ps, 4, none⟩ = false := by rw [← f4]; simp only [World.frozen?, hb.block ps hpl]
  have H30' : Hid (∀ W, Hid (Below (w.heap.size + 1) ((w.setCell ⟨ps, 4, none⟩ (.int .i64 0)).alloc (mvB 6 A B Cc hh gg vv dv)) W) → Calls Tryz.prog 30 #[.pointer (some ⟨ps, 0, none⟩), .int .i64 hh] W fun e w' => e = .returned (.int .i64 hn) ∧ Hid (Below (w.heap.size + 1) ((w.setCell ⟨ps, 4, none⟩ (.int .i64 0)).alloc (mvB 6 A B Cc hh gg vv dv)) w') ∧ LimbS ps ph w.heap.size 6 A B Cc hh gg vv dv vH w') := hide (fun W hW => (H30 W (unhide hW)).mono fun e w' ⟨q1, q2⟩ => ⟨q1, hide (hOn W w' (unhide hW) q2.below), hL w' (hOn W w' (unhide hW) q2.below)⟩)
  have H33' : Hid (∀ W, Hid (Below (w.heap.size + 1) ((w.setCell ⟨ps, 4, none⟩ (.int .i64 0)).alloc (mvB 6 A B Cc hh gg vv dv)) W) → Calls Tryz.prog 33 #[.pointer (some ⟨ps, 0, none⟩), .int .i64 hn] W fun e w' => e = .returned (.int .i64 hv) ∧ Hid (Below (w.heap.size + 1) ((w.setCell ⟨ps, 4, none⟩ (.int .i64 0)).alloc (mvB 6 A B Cc hh gg vv dv)) w') ∧ LimbS ps ph w.heap.size 6 A B Cc hh gg vv dv vH w') := hide (fun W hW => (H33 W (unhide hW)).mono fun e w' ⟨q1, q2⟩ => ⟨q1, hide (hOn W w' (unhide hW) q2.below), hL w' (hOn W w' (unhide hW) q2.below)⟩)
  have H30g' : Hid (∀ W, Hid (Below (w.heap.size + 1) ((w.setCell ⟨ps, 4, none⟩ (.int .i64 0)).alloc (mvB 6 A B Cc hh gg vv dv)) W) → Calls Tryz.prog 30 #[.pointer (some ⟨ps, 0, none⟩), .int .i64 gg] W fun e w' => e = .returned (.int .i64 hg) ∧ Hid (Below (w.heap.size + 1) ((w.setCell ⟨ps, 4, none⟩ (.int .i64 0)).alloc (mvB 6 A B Cc hh gg vv dv)) w') ∧ LimbS ps ph w.heap.size 6 A B Cc hh gg vv dv vH w') := hide (fun W hW => (H30g W (unhide hW)).mono fun e w' ⟨q1, q2⟩ => ⟨q1, hide (hOn W w' (unhide hW) q2.below), hL w' (hOn W w' (unhide hW) q2.below)⟩)
  have H33g' : Hid (∀ W, Hid (Below (w.heap.size + 1) ((w.setCell ⟨ps, 4, none⟩ (.int .i64 0)).alloc (mvB 6 A B Cc hh gg vv dv)) W) → Calls Tryz.prog 33 #[.pointer (some ⟨ps, 0, none⟩), .int .i64 hg] W fun e w' => e = .returned (.int .i64 tn) ∧ Hid (Below (w.heap.size + 1) ((w.setCell ⟨ps, 4, none⟩ (.int .i64 0)).alloc (mvB 6 A B Cc hh gg vv dv)) w') ∧ LimbS ps ph w.heap.size 6 A B Cc hh gg vv dv vH w') := hide (fun W hW => (H33g W (unhide hW)).mono fun e w' ⟨q1, q2⟩ => ⟨q1, hide (hOn W w' (unhide hW) q2.below), hL w' (hOn W w' (unhide hW) q2.below)⟩)
  have H28g' : Hid (∀ W, Hid (Below (w.heap.size + 1) ((w.setCell ⟨ps, 4, none⟩ (.int .i64 0)).alloc (mvB 6 A B Cc hh gg vv dv)) W) → Calls Tryz.prog 28 #[.pointer (some ⟨ph, 0, none⟩), .int .i64 hg] W fun e w' => e = .returned (.tuple #[.int .u64 (v : Nat), .int .i64 0]) ∧ Hid (Below (w.heap.size + 1) ((w.setCell ⟨ps, 4, none⟩ (.int .i64 0)).alloc (mvB 6 A B Cc hh gg vv dv)) w') ∧ LimbS ps ph w.heap.size 6 A B Cc hh gg vv dv vH w') := hide (fun W hW => (H28g W (unhide hW)).mono fun e w' ⟨q1, q2⟩ => ⟨q1, hide (hOn W w' (unhide hW) q2), hL w' (hOn W w' (unhide hW) q2)⟩)
  have hgl : gH < w.heap.size := block_lt_of_cell cH
  have HC' : Hid (∀ W, Hid (Below (w.heap.size + 1) ((w.setCell ⟨ps, 4, none⟩ (.int .i64 0)).alloc (mvB 6 A B Cc hh gg vv dv)) W) → Calls Tryz.prog 35 #[.pointer (some ⟨ph, 0, none⟩), .int .i64 hn, .int .u64 (v : Nat)] W fun e w' => e = .returned (.int .i64 0) ∧ LimbS ps ph w.heap.size 6 A B Cc hh gg vv dv vH w' ∧ w'.cell? ⟨gH, m, none⟩ = some xH ∧ w'.frozen? ⟨gH, m, none⟩ = false ∧ Hid (G w') ) := hide (fun W hW => (HC W (unhide hW)).mono fun e w' ⟨q1, q2, q3, q5, q4⟩ => by
    have hl := (hL W (unhide hW)).like q2 q3
    have e1 : w'.heap[gH]? = w.heap[gH]? := q5.trans (((unhide hW).block gH (by omega)).trans ((hb1.block gH hgl).trans (setCell_else _ _ _ _ _ ngp)))
    exact ⟨q1, hl, by rw [← cH]; simp only [World.cell?, e1], by rw [← fH]; simp only [World.frozen?, e1], hide q4⟩)
  have HR' := hide HR
  have ngb : gH ≠ w.heap.size := Nat.ne_of_lt hgl
  have HVH := hide hvH
  have HHN := hide hhn
  have hO0 : Hid (Below (w.heap.size + 1) ((w.setCell ⟨ps, 4, none⟩ (.int .i64 0)).alloc (mvB 6 A B Cc hh gg vv dv)) ((w.setCell ⟨ps, 4, none⟩ (.int .i64 0)).alloc (mvB 6 A B Cc hh gg vv dv))) := hide (Below.refl _ _)
  have t1 : decide (hv < 0) = false := decide_eq_false (by omega)
  have t2 : decide (tn < 0) = false := decide_eq_false (by omega)
  clear H30 hOn hL hb hb1 hz0 hsz L0 c0 c2 c4 f4 HR H33 H30g H33g H28g HC cH fH hvH hhn
  unfold mvV
  unfold mvB at H30' hO0 a0 a1 H33' HC' H30g' H33g' H28g'
  go_enter Tryz.func12, Tryz.ntmps12
  go_wp2_with fail
  refine (unhide H30' _ hO0).mono ?_
  clear hO0 a0 a1
  rintro e w1 ⟨rfl, hO1, ⟨x0, x2, ⟨r0, r1, r2, r3, r4, r5, r6, r7⟩⟩⟩
  generalize hB : w.heap.size = b at *
  go_wp2_with fail
  refine (unhide H30g' _ hO1).mono ?_
  rintro e w2 ⟨rfl, hO2, ⟨x0, x2, ⟨r0, r1, r2, r3, r4, r5, r6, r7⟩⟩⟩
  go_wp2_with fail
  refine (unhide H33g' _ hO2).mono ?_
  rintro e w3 ⟨rfl, hO3, ⟨x0, x2, ⟨r0, r1, r2, r3, r4, r5, r6, r7⟩⟩⟩
  go_wp2_with fail
  refine (unhide H33' _ hO3).mono ?_
  rintro e w4 ⟨rfl, hO4, ⟨x0, x2, ⟨r0, r1, r2, r3, r4, r5, r6, r7⟩⟩⟩
  go_wp2_with fail
  go_region_held3 (fun w' => w'.cell? ⟨ps, 0, none⟩ = some (.pointer (some ⟨ph, 0, none⟩)) ∧ w'.cell? ⟨b, 5, none⟩ = some (.int .i64 gg)) (go_keep) (first | (go_at_call 30; refine (unhide H30g' _ (hide (unhide hO4).drew)).mono ?_; rintro e w5 ⟨rfl, hO5, ⟨x0, x2, ⟨r0, r1, r2, r3, r4, r5, r6, r7⟩⟩⟩) | (go_at_call 28; refine (unhide H28g' _ hO5).mono ?_; rintro e w6 ⟨rfl, hO6, ⟨x0, x2, ⟨r0, r1, r2, r3, r4, r5, r6, r7⟩⟩⟩))
  go_wp2_with fail
  refine (unhide HC' _ hO6).mono ?_
  rintro e w7 ⟨rfl, ⟨x0, x2, ⟨r0, r1, r2, r3, r4, r5, r6, r7⟩⟩, u1, u2, hG⟩
  obtain rfl := unhide HVH
  obtain rfl := unhide HHN
  have su : IntKind.i64.wrap ((m : Int) + 1 - 1) = (m : Int) := by rw [show (m : Int) + 1 - 1 = (m : Int) by omega]; exact wrap_small _ (by omega) (by omega)
  have i3 : (0 : Int) ≤ (m : Nat) := by omega
  have i4 : (m : Int) < (lh : Nat) := by omega
  go_wp2_with fail
  (try go_region)
  all_goals go_wp2_with fail
  all_goals go_ret
  all_goals exact ⟨rfl, unhide HR' _ (unhide hG) _ (by first | exact Still.refl _ | exact (Still.refl _).drew _)⟩
end Go.Proofs.YtidfllgaeiopjaaGreat
namespace Go.Proofs.YtidfllgaeiopjaaGreat
open Go.ChangeShapes Go.WideShapes Go.ChangeAt Go.RowKit
set_option linter.unusedVariables false
set_option linter.unusedSimpArgs false
set_option maxRecDepth 100000
set_option maxHeartbeats 1000000

theorem step_drop0 {w : World} {ps ph : Nat} (A B Cc hh gg : Int) (vv : Nat) (dv vH : Value) (hod : dv.oneCell' = true) {hn : Int} (c0 : w.cell? ⟨ps, 0, none⟩ = some (.pointer (some ⟨ph, 0, none⟩))) (c2 : w.cell? ⟨ps, 2, none⟩ = some vH) (c4 : ∃ x, w.cell? ⟨ps, 4, none⟩ = some x) (f4 : w.frozen? ⟨ps, 4, none⟩ = false)
    (H30 : ∀ W, Below (w.heap.size + 1) ((w.setCell ⟨ps, 4, none⟩ (.int .i64 0)).alloc (mvB 5 A B Cc hh gg vv dv)) W → Calls Tryz.prog 30 #[.pointer (some ⟨ps, 0, none⟩), .int .i64 hh] W fun e w' => e = .returned (.int .i64 hn) ∧ Still W w')
    {hv : Int} (H33 : ∀ W, Below (w.heap.size + 1) ((w.setCell ⟨ps, 4, none⟩ (.int .i64 0)).alloc (mvB 5 A B Cc hh gg vv dv)) W → Calls Tryz.prog 33 #[.pointer (some ⟨ps, 0, none⟩), .int .i64 hn] W fun e w' => e = .returned (.int .i64 hv) ∧ Still W w' ) {R : World → Prop} (hneg : hv < 0) (HR : ∀ W, Below (w.heap.size + 1) ((w.setCell ⟨ps, 4, none⟩ (.int .i64 0)).alloc (mvB 5 A B Cc hh gg vv dv)) W → R W) :
    Calls Tryz.prog 12 #[.pointer (some ⟨ps, 0, none⟩), mvV 5 A B Cc hh gg vv dv] w fun e w' => e = .returned (.bool true) ∧ R w' := by
  have hpl : ps < w.heap.size := block_lt_of_cell c0
  have hb : Below w.heap.size w (w.alloc (mvB 5 A B Cc hh gg vv dv)) := (Below.refl _ _).alloc (Nat.le_refl _) _
  have hz0 : (w.setCell ⟨ps, 4, none⟩ (.int .i64 0)).heap.size = w.heap.size := World.size_setCell _ _ _
  have hsz : ((w.setCell ⟨ps, 4, none⟩ (.int .i64 0)).alloc (mvB 5 A B Cc hh gg vv dv)).heap.size = w.heap.size + 1 := by simp
  have hb1 : Below w.heap.size (w.setCell ⟨ps, 4, none⟩ (.int .i64 0)) ((w.setCell ⟨ps, 4, none⟩ (.int .i64 0)).alloc (mvB 5 A B Cc hh gg vv dv)) := by rw [← hz0]; exact (Below.refl _ _).alloc (Nat.le_refl _) _
  have L0 : LimbS ps ph w.heap.size 5 A B Cc hh gg vv dv vH ((w.setCell ⟨ps, 4, none⟩ (.int .i64 0)).alloc (mvB 5 A B Cc hh gg vv dv)) := by
    refine ⟨?_, ?_, ?_⟩
    · rw [hb1.cell (p := ⟨ps, 0, none⟩) hpl, World.cell?_setCell_other _ _ _ _ (by simp)]; exact c0
    · rw [hb1.cell (p := ⟨ps, 2, none⟩) hpl, World.cell?_setCell_other _ _ _ _ (by simp)]; exact c2
    · have := Boxed.new (w.setCell ⟨ps, 4, none⟩ (.int .i64 0)) 5 A B Cc hh gg vv dv
      rw [hz0] at this
      exact this
  have hL : ∀ W, Below (w.heap.size + 1) ((w.setCell ⟨ps, 4, none⟩ (.int .i64 0)).alloc (mvB 5 A B Cc hh gg vv dv)) W → LimbS ps ph w.heap.size 5 A B Cc hh gg vv dv vH W := fun W k => L0.like (k.block ps (by omega)) (k.block w.heap.size (by omega))
  have hOn : ∀ W w', Below (w.heap.size + 1) ((w.setCell ⟨ps, 4, none⟩ (.int .i64 0)).alloc (mvB 5 A B Cc hh gg vv dv)) W → Below W.heap.size W w' → Below (w.heap.size + 1) ((w.setCell ⟨ps, 4, none⟩ (.int .i64 0)).alloc (mvB 5 A B Cc hh gg vv dv)) w' := fun W w' k q => k.trans (q.mono (by have := k.size; rw [hsz] at this; exact this))
  obtain ⟨x4, c4⟩ := c4
  have a0 := (hb.cell (p := ⟨ps, 4, none⟩) hpl).trans c4
  have a1 : (w.alloc (mvB 5 A B Cc hh gg vv dv)).frozen? ⟨ps, 4, none⟩ = false := by rw [← f4]; simp only [World.frozen?, hb.block ps hpl]
  have H30' : Hid (∀ W, Hid (Below (w.heap.size + 1) ((w.setCell ⟨ps, 4, none⟩ (.int .i64 0)).alloc (mvB 5 A B Cc hh gg vv dv)) W) → Calls Tryz.prog 30 #[.pointer (some ⟨ps, 0, none⟩), .int .i64 hh] W fun e w' => e = .returned (.int .i64 hn) ∧ Hid (Below (w.heap.size + 1) ((w.setCell ⟨ps, 4, none⟩ (.int .i64 0)).alloc (mvB 5 A B Cc hh gg vv dv)) w') ∧ LimbS ps ph w.heap.size 5 A B Cc hh gg vv dv vH w') := hide (fun W hW => (H30 W (unhide hW)).mono fun e w' ⟨q1, q2⟩ => ⟨q1, hide (hOn W w' (unhide hW) q2.below), hL w' (hOn W w' (unhide hW) q2.below)⟩)
  have H33' : Hid (∀ W, Hid (Below (w.heap.size + 1) ((w.setCell ⟨ps, 4, none⟩ (.int .i64 0)).alloc (mvB 5 A B Cc hh gg vv dv)) W) → Calls Tryz.prog 33 #[.pointer (some ⟨ps, 0, none⟩), .int .i64 hn] W fun e w' => e = .returned (.int .i64 hv) ∧ Hid (Below (w.heap.size + 1) ((w.setCell ⟨ps, 4, none⟩ (.int .i64 0)).alloc (mvB 5 A B Cc hh gg vv dv)) w') ∧ LimbS ps ph w.heap.size 5 A B Cc hh gg vv dv vH w') := hide (fun W hW => (H33 W (unhide hW)).mono fun e w' ⟨q1, q2⟩ => ⟨q1, hide (hOn W w' (unhide hW) q2.below), hL w' (hOn W w' (unhide hW) q2.below)⟩)
  have HR' : Hid (∀ W, Hid (Below (w.heap.size + 1) ((w.setCell ⟨ps, 4, none⟩ (.int .i64 0)).alloc (mvB 5 A B Cc hh gg vv dv)) W) → R W) := hide (fun W hW => HR W (unhide hW))
  have hO0 : Hid (Below (w.heap.size + 1) ((w.setCell ⟨ps, 4, none⟩ (.int .i64 0)).alloc (mvB 5 A B Cc hh gg vv dv)) ((w.setCell ⟨ps, 4, none⟩ (.int .i64 0)).alloc (mvB 5 A B Cc hh gg vv dv))) := hide (Below.refl _ _)
  have t1 : decide (hv < 0) = true := decide_eq_true hneg
  clear H30 hOn hL hb hb1 hz0 hsz L0 c0 c2 c4 f4 HR H33
  unfold mvV
  unfold mvB at H30' hO0 a0 a1 H33' HR'
  go_enter Tryz.func12, Tryz.ntmps12
  go_wp2_with fail
  refine (unhide H30' _ hO0).mono ?_
  clear hO0 a0 a1
  rintro e w1 ⟨rfl, hO1, ⟨x0, x2, ⟨r0, r1, r2, r3, r4, r5, r6, r7⟩⟩⟩
  go_wp2_with fail
  refine (unhide H33' _ hO1).mono ?_
  rintro e w2 ⟨rfl, hO2, ⟨x0, x2, ⟨r0, r1, r2, r3, r4, r5, r6, r7⟩⟩⟩
  go_wp2_with fail
  go_ret
  exact ⟨rfl, unhide HR' _ hO2⟩

theorem step_drop {w : World} {ps ph : Nat} (A B Cc hh gg : Int) (vv : Nat) (dv vH : Value) (hod : dv.oneCell' = true) {hn : Int} (c0 : w.cell? ⟨ps, 0, none⟩ = some (.pointer (some ⟨ph, 0, none⟩))) (c2 : w.cell? ⟨ps, 2, none⟩ = some vH) (c4 : ∃ x, w.cell? ⟨ps, 4, none⟩ = some x) (f4 : w.frozen? ⟨ps, 4, none⟩ = false)
    (H30 : ∀ W, Below (w.heap.size + 1) ((w.setCell ⟨ps, 4, none⟩ (.int .i64 0)).alloc (mvB 5 A B Cc hh gg vv dv)) W → Calls Tryz.prog 30 #[.pointer (some ⟨ps, 0, none⟩), .int .i64 hh] W fun e w' => e = .returned (.int .i64 hn) ∧ Still W w')
    {hv : Int} (H33 : ∀ W, Below (w.heap.size + 1) ((w.setCell ⟨ps, 4, none⟩ (.int .i64 0)).alloc (mvB 5 A B Cc hh gg vv dv)) W → Calls Tryz.prog 33 #[.pointer (some ⟨ps, 0, none⟩), .int .i64 hn] W fun e w' => e = .returned (.int .i64 hv) ∧ Still W w' ) {m gH lh ch : Nat} {xH : Value} {G : World → Prop} (hvH : vH = .slice (some ⟨gH, 0, none⟩) lh ch) (hml : m < lh) (hlh : lh ≤ 1000000) (hhn : hn = (m : Nat) + 1) (cH : w.cell? ⟨gH, m, none⟩ = some xH) (fH : w.frozen? ⟨gH, m, none⟩ = false) (ngp : gH ≠ ps) (HC : ∀ W, Below (w.heap.size + 1) ((w.setCell ⟨ps, 4, none⟩ (.int .i64 0)).alloc (mvB 5 A B Cc hh gg vv dv)) W → Calls Tryz.prog 34 #[.pointer (some ⟨ph, 0, none⟩), .int .i64 hn] W fun e w' => e = .returned (.int .i64 0) ∧ w'.heap[ps]? = W.heap[ps]? ∧ w'.heap[w.heap.size]? = W.heap[w.heap.size]? ∧ w'.heap[gH]? = W.heap[gH]? ∧ G w' ) {R : World → Prop} (hneg : 0 ≤ hv) (HR : ∀ w5, G w5 → ∀ W, Still (w5.setCell ⟨gH, m, none⟩ (.int .i64 (-1))) W → R W) :
    Calls Tryz.prog 12 #[.pointer (some ⟨ps, 0, none⟩), mvV 5 A B Cc hh gg vv dv] w fun e w' => e = .returned (.bool true) ∧ R w' := by
  have hpl : ps < w.heap.size := block_lt_of_cell c0
  have hb : Below w.heap.size w (w.alloc (mvB 5 A B Cc hh gg vv dv)) := (Below.refl _ _).alloc (Nat.le_refl _) _
  have hz0 : (w.setCell ⟨ps, 4, none⟩ (.int .i64 0)).heap.size = w.heap.size := World.size_setCell _ _ _
  have hsz : ((w.setCell ⟨ps, 4, none⟩ (.int .i64 0)).alloc (mvB 5 A B Cc hh gg vv dv)).heap.size = w.heap.size + 1 := by simp
  have hb1 : Below w.heap.size (w.setCell ⟨ps, 4, none⟩ (.int .i64 0)) ((w.setCell ⟨ps, 4, none⟩ (.int .i64 0)).alloc (mvB 5 A B Cc hh gg vv dv)) := by rw [← hz0]; exact (Below.refl _ _).alloc (Nat.le_refl _) _
  have L0 : LimbS ps ph w.heap.size 5 A B Cc hh gg vv dv vH ((w.setCell ⟨ps, 4, none⟩ (.int .i64 0)).alloc (mvB 5 A B Cc hh gg vv dv)) := by
    refine ⟨?_, ?_, ?_⟩
    · rw [hb1.cell (p := ⟨ps, 0, none⟩) hpl, World.cell?_setCell_other _ _ _ _ (by simp)]; exact c0
    · rw [hb1.cell (p := ⟨ps, 2, none⟩) hpl, World.cell?_setCell_other _ _ _ _ (by simp)]; exact c2
    · have := Boxed.new (w.setCell ⟨ps, 4, none⟩ (.int .i64 0)) 5 A B Cc hh gg vv dv
      rw [hz0] at this
      exact this
  have hL : ∀ W, Below (w.heap.size + 1) ((w.setCell ⟨ps, 4, none⟩ (.int .i64 0)).alloc (mvB 5 A B Cc hh gg vv dv)) W → LimbS ps ph w.heap.size 5 A B Cc hh gg vv dv vH W := fun W k => L0.like (k.block ps (by omega)) (k.block w.heap.size (by omega))
  have hOn : ∀ W w', Below (w.heap.size + 1) ((w.setCell ⟨ps, 4, none⟩ (.int .i64 0)).alloc (mvB 5 A B Cc hh gg vv dv)) W → Below W.heap.size W w' → Below (w.heap.size + 1) ((w.setCell ⟨ps, 4, none⟩ (.int .i64 0)).alloc (mvB 5 A B Cc hh gg vv dv)) w' := fun W w' k q => k.trans (q.mono (by have := k.size; rw [hsz] at this; exact this))
  obtain ⟨x4, c4⟩ := c4
  have a0 := (hb.cell (p := ⟨ps, 4, none⟩) hpl).trans c4
  have a1 : (w.alloc (mvB 5 A B Cc hh gg vv dv)).frozen? ⟨ps, 4, none⟩ = false := by rw [← f4]; simp only [World.frozen?, hb.block ps hpl]
  have H30' : Hid (∀ W, Hid (Below (w.heap.size + 1) ((w.setCell ⟨ps, 4, none⟩ (.int .i64 0)).alloc (mvB 5 A B Cc hh gg vv dv)) W) → Calls Tryz.prog 30 #[.pointer (some ⟨ps, 0, none⟩), .int .i64 hh] W fun e w' => e = .returned (.int .i64 hn) ∧ Hid (Below (w.heap.size + 1) ((w.setCell ⟨ps, 4, none⟩ (.int .i64 0)).alloc (mvB 5 A B Cc hh gg vv dv)) w') ∧ LimbS ps ph w.heap.size 5 A B Cc hh gg vv dv vH w') := hide (fun W hW => (H30 W (unhide hW)).mono fun e w' ⟨q1, q2⟩ => ⟨q1, hide (hOn W w' (unhide hW) q2.below), hL w' (hOn W w' (unhide hW) q2.below)⟩)
  have H33' : Hid (∀ W, Hid (Below (w.heap.size + 1) ((w.setCell ⟨ps, 4, none⟩ (.int .i64 0)).alloc (mvB 5 A B Cc hh gg vv dv)) W) → Calls Tryz.prog 33 #[.pointer (some ⟨ps, 0, none⟩), .int .i64 hn] W fun e w' => e = .returned (.int .i64 hv) ∧ Hid (Below (w.heap.size + 1) ((w.setCell ⟨ps, 4, none⟩ (.int .i64 0)).alloc (mvB 5 A B Cc hh gg vv dv)) w') ∧ LimbS ps ph w.heap.size 5 A B Cc hh gg vv dv vH w') := hide (fun W hW => (H33 W (unhide hW)).mono fun e w' ⟨q1, q2⟩ => ⟨q1, hide (hOn W w' (unhide hW) q2.below), hL w' (hOn W w' (unhide hW) q2.below)⟩)
  have hgl : gH < w.heap.size := block_lt_of_cell cH
  have HC' : Hid (∀ W, Hid (Below (w.heap.size + 1) ((w.setCell ⟨ps, 4, none⟩ (.int .i64 0)).alloc (mvB 5 A B Cc hh gg vv dv)) W) → Calls Tryz.prog 34 #[.pointer (some ⟨ph, 0, none⟩), .int .i64 hn] W fun e w' => e = .returned (.int .i64 0) ∧ LimbS ps ph w.heap.size 5 A B Cc hh gg vv dv vH w' ∧ w'.cell? ⟨gH, m, none⟩ = some xH ∧ w'.frozen? ⟨gH, m, none⟩ = false ∧ Hid (G w') ) := hide (fun W hW => (HC W (unhide hW)).mono fun e w' ⟨q1, q2, q3, q5, q4⟩ => by
    have hl := (hL W (unhide hW)).like q2 q3
    have e1 : w'.heap[gH]? = w.heap[gH]? := q5.trans (((unhide hW).block gH (by omega)).trans ((hb1.block gH hgl).trans (setCell_else _ _ _ _ _ ngp)))
    exact ⟨q1, hl, by rw [← cH]; simp only [World.cell?, e1], by rw [← fH]; simp only [World.frozen?, e1], hide q4⟩)
  have HR' := hide HR
  have ngb : gH ≠ w.heap.size := Nat.ne_of_lt hgl
  have HVH := hide hvH
  have HHN := hide hhn
  have hO0 : Hid (Below (w.heap.size + 1) ((w.setCell ⟨ps, 4, none⟩ (.int .i64 0)).alloc (mvB 5 A B Cc hh gg vv dv)) ((w.setCell ⟨ps, 4, none⟩ (.int .i64 0)).alloc (mvB 5 A B Cc hh gg vv dv))) := hide (Below.refl _ _)
  have t1 : decide (hv < 0) = false := decide_eq_false (by omega)
  clear H30 hOn hL hb hb1 hz0 hsz L0 c0 c2 c4 f4 HR H33 HC cH fH hvH hhn
  unfold mvV
  unfold mvB at H30' hO0 a0 a1 H33' HC'
  go_enter Tryz.func12, Tryz.ntmps12
  go_wp2_with fail
  refine (unhide H30' _ hO0).mono ?_
  clear hO0 a0 a1
  rintro e w1 ⟨rfl, hO1, ⟨x0, x2, ⟨r0, r1, r2, r3, r4, r5, r6, r7⟩⟩⟩
  go_wp2_with fail
  refine (unhide H33' _ hO1).mono ?_
  rintro e w2 ⟨rfl, hO2, ⟨x0, x2, ⟨r0, r1, r2, r3, r4, r5, r6, r7⟩⟩⟩
  go_wp2_with fail
  refine (unhide HC' _ hO2).mono ?_
  rintro e w3 ⟨rfl, ⟨x0, x2, ⟨r0, r1, r2, r3, r4, r5, r6, r7⟩⟩, u1, u2, hG⟩
  obtain rfl := unhide HVH
  obtain rfl := unhide HHN
  have su : IntKind.i64.wrap ((m : Int) + 1 - 1) = (m : Int) := by rw [show (m : Int) + 1 - 1 = (m : Int) by omega]; exact wrap_small _ (by omega) (by omega)
  have i3 : (0 : Int) ≤ (m : Nat) := by omega
  have i4 : (m : Int) < (lh : Nat) := by omega
  go_wp2_with fail
  (try go_region)
  all_goals go_wp2_with fail
  all_goals go_ret
  all_goals exact ⟨rfl, unhide HR' _ (unhide hG) _ (by first | exact Still.refl _ | exact (Still.refl _).drew _)⟩
end Go.Proofs.YtidfllgaeiopjaaGreat
