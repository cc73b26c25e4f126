/- The document's block is changed: Set, New, Clear. -/
import Derived.Test.YtdgdnpgjbphgaabRefAsk
namespace Go.Proofs.Ytdgdnpgjbphgaab
open Go.ChangeShapes Go.WideShapes Go.ChangeAt Go.RowKit
set_option linter.unusedVariables false
set_option maxRecDepth 100000
set_option maxHeartbeats 4000000

/-- a change of what has tags in P -/
structure RChg (P : Nat → Prop) (rt rt' : Nat → Nat) (w w' : World) : Prop where
  os : w'.os = w.os
  tape : w'.tape = w.tape
  output : w'.output = w.output
  size : w.heap.size ≤ w'.heap.size
  tg : ∀ g, g < w.heap.size → rt' g = rt g
  blk : ∀ g, g < w.heap.size → ¬ P (rt g) → w'.heap[g]? = w.heap[g]?
  un : ∀ g, rt' g ≠ 0 → g < w'.heap.size
theorem RChg.below {P : Nat → Prop} {rt : Nat → Nat} {w w' : World} (un : ∀ g, rt g ≠ 0 → g < w.heap.size) (hb : Below w.heap.size w w') : RChg P rt rt w w' := ⟨hb.os, hb.tape, hb.output, hb.size, fun _ _ => rfl, fun g hg _ => hb.block g hg, fun g hg => Nat.lt_of_lt_of_le (un g hg) hb.size⟩
theorem RChg.trans {P : Nat → Prop} {r1 r2 r3 : Nat → Nat} {a b d : World} (h : RChg P r1 r2 a b) (k : RChg P r2 r3 b d) : RChg P r1 r3 a d := by
  have hs := h.size
  exact ⟨k.os.trans h.os, k.tape.trans h.tape, k.output.trans h.output, Nat.le_trans h.size k.size, fun g hg => (k.tg g (by omega)).trans (h.tg g hg), fun g hg hh => (k.blk g (by omega) (by rw [h.tg g hg]; exact hh)).trans (h.blk g hg hh), k.un⟩
theorem RChg.set {P : Nat → Prop} {rt : Nat → Nat} {w : World} (un : ∀ g, rt g ≠ 0 → g < w.heap.size) (b k : Nat) (v : Value) (h : P (rt b)) : RChg P rt rt w (w.setCell ⟨b, k, none⟩ v) :=
  ⟨rfl, rfl, rfl, by simp, fun _ _ => rfl, fun g _ hh => setCell_else w b k g v (fun e => by subst e; exact hh h), fun g hg => by simpa using un g hg⟩
theorem RChg.weak {P P' : Nat → Prop} {rt rt' : Nat → Nat} {w w' : World} (h : RChg P rt rt' w w') (hp : ∀ k, P k → P' k) : RChg P' rt rt' w w' := ⟨h.os, h.tape, h.output, h.size, h.tg, fun g hg hn => h.blk g hg (fun e => hn (hp _ e)), h.un⟩
/-- field m of object j is v now -/
def RefSt.put (R : RefSt) (j m v : Nat) : RefSt := { R with X := R.X.set j ((R.X.getD j []).set m v) }
theorem put_at (R : RefSt) (j m v i : Nat) (hj : j < R.X.length) : (R.put j m v).X.getD i [] = if i = j then (R.X.getD j []).set m v else R.X.getD i [] := by
  show (R.X.set j _).getD i [] = _
  rw [List.getD_eq_getElem?_getD, List.getElem?_set]
  by_cases e : j = i
  · subst e
    rw [if_pos rfl, if_pos hj, if_pos rfl]; rfl
  · rw [if_neg e, if_neg (fun h => e h.symm), ← List.getD_eq_getElem?_getD]
theorem RefAt.put {w : World} {pr r : Nat} {rt : Nat → Nat} {R : RefSt} (h : RefAt w pr r rt R) (j m v gF : Nat) (hj : j < R.L.length) (hm : m < fldsOf R.L j) (hv : v < 18446744073709551616) (hg : (R.F.getD j undef).ownBlock = some gF) : RefAt (w.setCell ⟨gF, m, none⟩ (.int .u64 (v : Nat))) pr r rt (R.put j m v) := by
  have hx := h.xl
  have tj := (h.fld j hj).2 gF hg
  have hne : ∀ b, rt b ≠ 40 + 3 * j + r → (w.setCell ⟨gF, m, none⟩ (.int .u64 (v : Nat))).heap[b]? = w.heap[b]? := fun b hb => setCell_else w gF m b _ (fun e => hb (by rw [e]; exact tj))
  have hp := hne pr (by rw [h.tp]; omega)
  have hat := fun i => put_at R j m v i (by omega)
  refine ⟨(World.cell?_of_block (a := ⟨pr, 0, none⟩) hp).trans h.c0, (World.cell?_of_block (a := ⟨pr, 1, none⟩) hp).trans h.c1, (World.cell?_of_block (a := ⟨pr, 2, none⟩) hp).trans h.c2, (World.frozen?_of_block (a := ⟨pr, 1, none⟩) hp).trans h.f1, (World.frozen?_of_block (a := ⟨pr, 2, none⟩) hp).trans h.f2, by simpa using h.lp, h.tp, h.row.same (fun g hgg => hne g (by rw [h.tr g hgg]; omega)), h.tr, fun i hi => ?_, by show (R.X.set j _).length = _; rw [List.length_set]; exact h.xl, h.gl, h.fl, fun i hi => ?_, h.u2, h.sz, fun i k => ?_, h.go, h.sh⟩
  · obtain ⟨h1, h2⟩ := h.fld i hi
    refine ⟨?_, h2⟩
    rw [hat i]
    by_cases e : i = j
    · subst e
      rw [if_pos rfl]
      refine (h1.put hg m _ hm).congr (fun k hk => ?_)
      show (if k = m then _ else w64 ((R.X.getD i []).getD k 0)) = w64 (((R.X.getD i []).set m v).getD k 0)
      rw [getD_set _ _ _ _ (by rw [h.xs i hi]; exact hm)]
      by_cases ek : k = m
      · rw [if_pos ek, if_pos ek]; rfl
      · rw [if_neg ek, if_neg ek]
    · rw [if_neg e]
      exact h1.same (fun g hgg => hne g (by rw [h2 g hgg]; omega))
  · rw [hat i]
    by_cases e : i = j
    · subst e
      rw [if_pos rfl, List.length_set]
      exact h.xs i hi
    · rw [if_neg e]; exact h.xs i hi
  · rw [hat i]
    by_cases e : i = j
    · rw [if_pos e, getD_set _ _ _ _ (by rw [h.xs j hj]; exact hm)]
      by_cases ek : k = m
      · rw [if_pos ek]; exact hv
      · rw [if_neg ek]; exact h.sm j k
    · rw [if_neg e]; exact h.sm i k
def rsetErr (R : RefSt) (at' k : Int) : Nat := (rget R at' k).2
theorem rset_any {w : World} {pr r : Nat} {rt : Nat → Nat} {R : RefSt} (h : RefAt w pr r rt R) (un : ∀ g, rt g ≠ 0 → g < w.heap.size) (at' k : Int) (v : Nat) (hv : v < 18446744073709551616) :
    Calls Try.prog 26 #[.pointer (some ⟨pr, 0, none⟩), .int .i64 at', .int .i64 k, .int .u64 (v : Nat)] w fun e w' => e = .returned (.int .i64 (rsetErr R at' k : Nat)) ∧ RChg (Mine r) rt rt w w' ∧ ((rsetErr R at' k ≠ 0 ∧ RefAt w' pr r rt R) ∨ ∃ j m : Nat, j < R.L.length ∧ at' = (place R.L j : Nat) ∧ k = m ∧ m < fldsOf R.L j ∧ R.Gn.getD j none = none ∧ rsetErr R at' k = 0 ∧ RefAt w' pr r rt (R.put j m v)) := by
  unfold rsetErr
  have HBW : Hid (∀ w', Still w w' → RChg (Mine r) rt rt w w' ∧ RefAt w' pr r rt R) := hide (fun w' k => ⟨RChg.below un k.below, h.still k⟩)
  rcases at_cases R.L at' with ⟨j, hj, rfl⟩ | hno
  · cases hg : R.Gn.getD j none with
    | none =>
      have HF := hide (whole_yes h j hj hg)
      have HO := hide (fun wq k => h.six j hj wq k)
      obtain ⟨hf1, hf2, hf3⟩ := h.flds j hj
      have y0 : (0 : Int) ≤ (j : Int) := by omega
      have y1 : (j : Int) < (R.L.length : Int) := by omega
      by_cases hk : 0 ≤ k ∧ k < (fldsOf R.L j : Nat)
      · have hr : rget R (place R.L j : Nat) k = ((R.X.getD j []).getD k.toNat 0, 0) := by unfold rget; rw [findJ_yes hj rfl]; dsimp only; rw [hg]; dsimp only [Option.isSome]; rw [if_neg (by decide), if_pos hk]
        rw [hr]
        obtain ⟨m, rfl⟩ := Int.eq_ofNat_of_zero_le hk.1
        have hm : m < fldsOf R.L j := by omega
        have HX : Hid (∀ wq, Still w wq → ∀ aF cF, R.F.getD j undef = .slice aF (fldsOf R.L j) cF → ∃ gF xv, aF = some ⟨gF, 0, none⟩ ∧ wq.cell? ⟨gF, m, none⟩ = some (.int .u64 (xv : Nat)) ∧ wq.frozen? ⟨gF, m, none⟩ = false ∧ RefAt (wq.setCell ⟨gF, m, none⟩ (.int .u64 (v : Nat))) pr r rt (R.put j m v) ∧ RChg (Mine r) rt rt w (wq.setCell ⟨gF, m, none⟩ (.int .u64 (v : Nat)))) := hide (fun wq k aF cF e => by
          obtain ⟨gF, cap, hvv, hgb, hc⟩ := ((h.still k).fld j hj).1.at (by omega)
          have tF := (h.fld j hj).2 gF hgb
          have hvv' := hvv
          rw [e] at hvv'
          simp only [Value.slice.injEq] at hvv'
          exact ⟨gF, (R.X.getD j []).getD m 0, hvv'.1, (hc m hm).1, (hc m hm).2, (h.still k).put j m v gF hj hm hv hgb, (RChg.below un k.below).trans (RChg.set (fun g hgg => by rw [k.heap]; exact un g hgg) gF m _ (by rw [tF]; exact ⟨by omega, by omega⟩))⟩)
        have d1 : decide ((m : Int) < 0) = false := decide_eq_false (by omega)
        have d2 : decide ((fldsOf R.L j : Int) ≤ (m : Int)) = false := decide_eq_false (by omega)
        have d2' : decide (fldsOf R.L j ≤ m) = false := decide_eq_false (by omega)
        have z0 : (0 : Int) ≤ (m : Int) := by omega
        have z1 : (m : Int) < (fldsOf R.L j : Int) := by omega
        have HM := hide hm
        generalize hnf : fldsOf R.L j = nf at *
        generalize hpj : place R.L j = pj at *
        have HG := hide hg
        have HPJ := hide hpj
        have HNF := hide hnf
        clear hr h hg hf3 hf2 hk hpj hnf
        go_enter Try.func26, Try.ntmps26
        go_wp2_with fail
        refine (unhide HF).mono ?_
        rintro e w1 ⟨rfl, hst⟩
        obtain ⟨g, cap, aF, cF, c2, eF, o0, o1, o2, o3, o4, o5, _⟩ := unhide HO w1 hst
        obtain ⟨gF, xv, rfl, hx, hfz, hR, hC⟩ := unhide HX w1 hst aF cF eF
        have HR := hide hR
        have HC := hide hC
        clear o0 o1 o2 o4 o5 hst HO HF HX eF hR hC
        go_wp2
        refine bodyPost_ret (v := .int .i64 0) (by simp [results, Try.results26, go_sem]) rfl ⟨rfl, unhide HC, .inr ⟨j, m, hj, by rw [unhide HPJ], rfl, by rw [unhide HNF]; exact hm, unhide HG, trivial, unhide HR⟩⟩
      · have hr : rget R (place R.L j : Nat) k = (0, 24) := by unfold rget; rw [findJ_yes hj rfl]; dsimp only; rw [hg]; dsimp only [Option.isSome]; rw [if_neg (by decide), if_neg hk]
        rw [hr]
        by_cases hk0 : k < 0
        · have d1 : decide (k < 0) = true := decide_eq_true hk0
          clear hr h hg hf3 hf2 hk HO
          go_enter Try.func26, Try.ntmps26
          go_wp2_with fail
          refine (unhide HF).mono ?_
          rintro e w1 ⟨rfl, hst⟩
          have HBL := hide (unhide HBW w1 hst)
          clear hst
          go_wp2
          refine bodyPost_ret (v := .int .i64 24) (by simp [results, Try.results26, go_sem]) rfl ⟨rfl, (unhide HBL).1, .inl ⟨by decide, (unhide HBL).2⟩⟩
        · have d1 : decide (k < 0) = false := decide_eq_false hk0
          have d2 : decide ((fldsOf R.L j : Int) ≤ k) = true := decide_eq_true (by omega)
          generalize fldsOf R.L j = nf at *
          generalize place R.L j = pj at *
          clear hr h hg hf3 hf2 hk
          go_enter Try.func26, Try.ntmps26
          go_wp2_with fail
          refine (unhide HF).mono ?_
          rintro e w1 ⟨rfl, hst⟩
          obtain ⟨g, cap, aF, cF, c2, eF, o0, o1, o2, o3, o4, o5, _⟩ := unhide HO w1 hst
          have HBL := hide (unhide HBW w1 hst)
          clear o0 o1 o2 o4 o5 hst HO HF eF
          go_wp2
          refine bodyPost_ret (v := .int .i64 24) (by simp [results, Try.results26, go_sem]) rfl ⟨rfl, (unhide HBL).1, .inl ⟨by decide, (unhide HBL).2⟩⟩
    | some t =>
      have hr : rget R (place R.L j : Nat) k = (0, 26) := by unfold rget; rw [findJ_yes hj rfl]; dsimp only; rw [hg]; rfl
      rw [hr]
      have HF := hide (whole_gone h j t hj hg)
      clear hr h hg
      go_enter Try.func26, Try.ntmps26
      go_wp2_with fail
      refine (unhide HF).mono ?_
      rintro e w1 ⟨rfl, hst⟩
      have HBL := hide (unhide HBW w1 hst)
      clear hst
      go_wp2
      refine bodyPost_ret (v := .int .i64 26) (by simp [results, Try.results26, go_sem]) rfl ⟨rfl, (unhide HBL).1, .inl ⟨by decide, (unhide HBL).2⟩⟩
  · have hr : rget R at' k = (0, 23) := by unfold rget; rw [findJ_no hno]
    rw [hr]
    have HF := hide (whole_no h at' hno)
    clear hr h hno
    go_enter Try.func26, Try.ntmps26
    go_wp2_with fail
    refine (unhide HF).mono ?_
    rintro e w1 ⟨rfl, hst⟩
    have HBL := hide (unhide HBW w1 hst)
    clear hst
    go_wp2
    refine bodyPost_ret (v := .int .i64 23) (by simp [results, Try.results26, go_sem]) rfl ⟨rfl, (unhide HBL).1, .inl ⟨by decide, (unhide HBL).2⟩⟩
end Go.Proofs.Ytdgdnpgjbphgaab
