/- The document's block is asked. -/
import Derived.Test.YtdgdnpgjbphgaabRef
namespace Go.Proofs.Ytdgdnpgjbphgaab
open Go.ChangeShapes Go.WideShapes Go.ChangeAt Go.RowKit
set_option linter.unusedVariables false
set_option maxRecDepth 100000
set_option maxHeartbeats 4000000

/-- the object that begins there -/
def findJ (L : List (Nat × Nat × Nat)) (at' : Int) : Option Nat := (List.range L.length).find? fun j => decide (at' = ((place L j : Nat) : Int))
theorem findJ_yes {L : List (Nat × Nat × Nat)} {at' : Int} {j : Nat} (hj : j < L.length) (h : at' = ((place L j : Nat) : Int)) : findJ L at' = some j := by
  unfold findJ
  rw [List.find?_eq_some_iff_append]
  refine ⟨decide_eq_true h, List.range j, List.range' (j + 1) (L.length - j - 1), ?_, fun i hi => ?_⟩
  · rw [List.range_eq_range', List.range_eq_range']
    have e : L.length = j + (1 + (L.length - j - 1)) := by omega
    conv => lhs; rw [e, ← List.range'_append_1, ← List.range'_append_1]
    simp
  · rw [List.mem_range] at hi
    simp
    intro e
    have : place L i = place L j := by omega
    have := place_inj L this
    omega
theorem findJ_no {L : List (Nat × Nat × Nat)} {at' : Int} (h : ∀ j, j < L.length → at' ≠ ((place L j : Nat) : Int)) : findJ L at' = none := by
  unfold findJ
  rw [List.find?_eq_none]
  intro j hj
  rw [List.mem_range] at hj
  simp
  exact h j hj
def robj (R : RefSt) (at' : Int) : Nat × Nat × Nat × Nat :=
  match findJ R.L at' with
  | none => (0, 0, 0, 23)
  | some j => if (R.Gn.getD j none).isSome = true then (0, 0, 0, 26) else ((R.L.getD j (0, 0, 0)).1, (R.L.getD j (0, 0, 0)).2.1, (R.L.getD j (0, 0, 0)).2.2, 0)
def rget (R : RefSt) (at' k : Int) : Nat × Nat :=
  match findJ R.L at' with
  | none => (0, 23)
  | some j => if (R.Gn.getD j none).isSome = true then (0, 26) else if 0 ≤ k ∧ k < (fldsOf R.L j : Nat) then ((R.X.getD j []).getD k.toNat 0, 0) else (0, 24)
def rmoved (R : RefSt) (at' : Int) : Nat × Bool × Nat :=
  match findJ R.L at' with
  | none => (0, false, 23)
  | some j => match R.Gn.getD j none with
    | none => (0, false, 0)
    | some t => (t, true, 0)
theorem Still.below {w w' : World} (k : Still w w') : Below w.heap.size w w' := ⟨k.os, k.tape, k.output, by rw [k.heap]; exact Nat.le_refl _, fun g _ => by rw [k.heap]⟩
theorem whole_yes {w : World} {pr r : Nat} {rt : Nat → Nat} {R : RefSt} (h : RefAt w pr r rt R) (j : Nat) (hj : j < R.L.length) (hg : R.Gn.getD j none = none) :
    Calls Try.prog 65 #[.pointer (some ⟨pr, 0, none⟩), .int .i64 (place R.L j : Nat)] w fun e w' => e = .returned (.tuple #[.int .i64 j, .int .i64 0]) ∧ Still w w' := by
  refine (whole_any h (place R.L j : Nat)).mono ?_
  rintro e w' ⟨(⟨i, hi, hat, hgi, rfl⟩ | ⟨i, hi, hat, hgi, rfl⟩ | ⟨hno, rfl⟩), hst⟩
  · have : i = j := place_inj R.L (by omega)
    subst this
    exact ⟨rfl, hst⟩
  · have : i = j := place_inj R.L (by omega)
    subst this
    rw [hg] at hgi
    cases hgi
  · exact absurd rfl (hno j hj)
theorem whole_gone {w : World} {pr r : Nat} {rt : Nat → Nat} {R : RefSt} (h : RefAt w pr r rt R) (j t : Nat) (hj : j < R.L.length) (hg : R.Gn.getD j none = some t) :
    Calls Try.prog 65 #[.pointer (some ⟨pr, 0, none⟩), .int .i64 (place R.L j : Nat)] w fun e w' => e = .returned (.tuple #[.int .i64 0, .int .i64 26]) ∧ Still w w' := by
  refine (whole_any h (place R.L j : Nat)).mono ?_
  rintro e w' ⟨(⟨i, hi, hat, hgi, rfl⟩ | ⟨i, hi, hat, hgi, rfl⟩ | ⟨hno, rfl⟩), hst⟩
  · have : i = j := place_inj R.L (by omega)
    subst this
    rw [hg] at hgi
    cases hgi
  · exact ⟨rfl, hst⟩
  · exact absurd rfl (hno j hj)
theorem whole_no {w : World} {pr r : Nat} {rt : Nat → Nat} {R : RefSt} (h : RefAt w pr r rt R) (at' : Int) (hn : ∀ j, j < R.L.length → at' ≠ (place R.L j : Nat)) :
    Calls Try.prog 65 #[.pointer (some ⟨pr, 0, none⟩), .int .i64 at'] w fun e w' => e = .returned (.tuple #[.int .i64 0, .int .i64 23]) ∧ Still w w' := by
  refine (whole_any h at').mono ?_
  rintro e w' ⟨(⟨i, hi, hat, hgi, rfl⟩ | ⟨i, hi, hat, hgi, rfl⟩ | ⟨hno, rfl⟩), hst⟩
  · exact absurd hat (hn i hi)
  · exact absurd hat (hn i hi)
  · exact ⟨rfl, hst⟩
theorem find_yes {w : World} {pr r : Nat} {rt : Nat → Nat} {R : RefSt} (h : RefAt w pr r rt R) (j : Nat) (hj : j < R.L.length) :
    Calls Try.prog 67 #[.pointer (some ⟨pr, 0, none⟩), .int .i64 (place R.L j : Nat)] w fun e w' => e = .returned (.int .i64 j) ∧ Still w w' := by
  refine (find_any h (place R.L j : Nat)).mono ?_
  rintro e w' ⟨⟨k, rfl, (⟨i, hi, hat, rfl⟩ | ⟨rfl, hno⟩)⟩, hst⟩
  · have : i = j := place_inj R.L (by omega)
    subst this
    exact ⟨rfl, hst⟩
  · exact absurd rfl (hno j hj)
theorem find_no {w : World} {pr r : Nat} {rt : Nat → Nat} {R : RefSt} (h : RefAt w pr r rt R) (at' : Int) (hn : ∀ j, j < R.L.length → at' ≠ (place R.L j : Nat)) :
    Calls Try.prog 67 #[.pointer (some ⟨pr, 0, none⟩), .int .i64 at'] w fun e w' => e = .returned (.int .i64 (-1)) ∧ Still w w' := by
  refine (find_any h at').mono ?_
  rintro e w' ⟨⟨k, rfl, (⟨i, hi, hat, rfl⟩ | ⟨rfl, hno⟩)⟩, hst⟩
  · exact absurd hat (hn i hi)
  · exact ⟨rfl, hst⟩
theorem at_cases (L : List (Nat × Nat × Nat)) (at' : Int) : (∃ j, j < L.length ∧ at' = (place L j : Nat)) ∨ ∀ j, j < L.length → at' ≠ (place L j : Nat) := by
  by_cases h : ∃ j, j < L.length ∧ at' = (place L j : Nat)
  · exact .inl h
  · exact .inr (fun j hj e => h ⟨j, hj, e⟩)
/-- all cells of an object, in whatever world still has them -/
theorem RefAt.six {w : World} {pr r : Nat} {rt : Nat → Nat} {R : RefSt} (h : RefAt w pr r rt R) (j : Nat) (hj : j < R.L.length) (wq : World) (k : Still w wq) : ∃ g cap aF cF, wq.cell? ⟨pr, 2, none⟩ = some (.slice (some ⟨g, 0, none⟩) R.L.length cap) ∧ R.F.getD j undef = .slice aF (fldsOf R.L j) cF ∧ wq.cell? ⟨g, j * 6, none⟩ = some (.int .i64 (place R.L j : Nat)) ∧ wq.cell? ⟨g, j * 6 + 1, none⟩ = some (.int .i64 ((R.L.getD j (0, 0, 0)).1 : Nat)) ∧ wq.cell? ⟨g, j * 6 + 2, none⟩ = some (.int .i64 ((R.L.getD j (0, 0, 0)).2.1 : Nat)) ∧ wq.cell? ⟨g, j * 6 + 3, none⟩ = some (.slice aF (fldsOf R.L j) cF) ∧ wq.cell? ⟨g, j * 6 + 4, none⟩ = some (.bool (R.Gn.getD j none).isSome) ∧ wq.cell? ⟨g, j * 6 + 5, none⟩ = some (.int .i64 ((R.Gn.getD j none).getD 0 : Nat)) ∧ R.v.ownBlock = some g := by
  obtain ⟨g, cap, hv, hc2, hc⟩ := (h.still k).obj j hj
  obtain ⟨aF, cF, hF⟩ := (h.fld j hj).1.shape
  exact ⟨g, cap, aF, cF, hc2, hF, (hc 0 (by decide)).1, (hc 1 (by decide)).1, (hc 2 (by decide)).1, by rw [← hF]; exact (hc 3 (by decide)).1, (hc 4 (by decide)).1, (hc 5 (by decide)).1, by rw [hv]; rfl⟩
theorem RefAt.flds {w : World} {pr r : Nat} {rt : Nat → Nat} {R : RefSt} (h : RefAt w pr r rt R) (j : Nat) (hj : j < R.L.length) : fldsOf R.L j ≤ 1048576 ∧ (R.L.getD j (0, 0, 0)).2.1 ≤ fldsOf R.L j ∧ (fldsOf R.L j : Int) - ((R.L.getD j (0, 0, 0)).2.1 : Int) = ((R.L.getD j (0, 0, 0)).2.2 : Int) := by
  have h1 := h.u2
  have h2 := h.sz
  have h3 := place_lt R.L hj
  unfold RefSt.used at h1
  unfold wd at h3
  unfold fldsOf
  refine ⟨by omega, by omega, by omega⟩
theorem robject_any {w : World} {pr r : Nat} {rt : Nat → Nat} {R : RefSt} (h : RefAt w pr r rt R) (at' : Int) :
    Calls Try.prog 22 #[.pointer (some ⟨pr, 0, none⟩), .int .i64 at'] w fun e w' => e = .returned (.tuple #[.int .i64 ((robj R at').1 : Nat), .int .i64 ((robj R at').2.1 : Nat), .int .i64 ((robj R at').2.2.1 : Nat), .int .i64 ((robj R at').2.2.2 : Nat)]) ∧ Below w.heap.size w w' := by
  rcases at_cases R.L at' with ⟨j, hj, rfl⟩ | hno
  · cases hg : R.Gn.getD j none with
    | none =>
      have hr : robj R (place R.L j : Nat) = ((R.L.getD j (0, 0, 0)).1, (R.L.getD j (0, 0, 0)).2.1, (R.L.getD j (0, 0, 0)).2.2, 0) := by unfold robj; rw [findJ_yes hj rfl]; dsimp only; rw [hg]; rfl
      rw [hr]
      have HF := hide (whole_yes h j hj hg)
      have HO := hide (fun wq k => h.six j hj wq k)
      obtain ⟨hf1, hf2, hf3⟩ := h.flds j hj
      have y0 : (0 : Int) ≤ (j : Int) := by omega
      have y1 : (j : Int) < (R.L.length : Int) := by omega
      rw [hg] at HO
      have HFE := hide hf3
      generalize (R.L.getD j (0, 0, 0)).1 = kd at *
      generalize (R.L.getD j (0, 0, 0)).2.1 = rf at *
      generalize (R.L.getD j (0, 0, 0)).2.2 = rw' at *
      generalize fldsOf R.L j = nf at *
      generalize place R.L j = pj at *
      clear hr h hg hf3
      go_enter Try.func22, Try.ntmps22
      go_wp2_with fail
      refine (unhide HF).mono ?_
      rintro e w1 ⟨rfl, hst⟩
      obtain ⟨g, cap, aF, cF, c2, _, o0, o1, o2, o3, o4, o5, _⟩ := unhide HO w1 hst
      have o4' : w1.cell? ⟨g, j * 6 + 4, none⟩ = some (.bool false) := o4
      have o5' : w1.cell? ⟨g, j * 6 + 5, none⟩ = some (.int .i64 0) := o5
      have HBL := hide hst.below
      clear o4 o5 hst HO HF
      go_wp2_with fail
      go_quiet (fail)
      go_wp2
      refine bodyPost_ret (v := .tuple #[.int .i64 (kd : Nat), .int .i64 (rf : Nat), .int .i64 ((nf : Int) - (rf : Int)), .int .i64 0]) (by simp [results, Try.results22, go_sem]) rfl ⟨by rw [unhide HFE]; rfl, ?_⟩
      have hb := (unhide HBL).alloc (unhide HBL).size (.cells #[.int .i64 (pj : Nat), .int .i64 (kd : Nat), .int .i64 (rf : Nat), .slice aF nf cF, .bool false, .int .i64 0] 112)
      exact ⟨hb.os, hb.tape, hb.output, hb.size, hb.block⟩
    | some t =>
      have hr : robj R (place R.L j : Nat) = (0, 0, 0, 26) := by unfold robj; rw [findJ_yes hj rfl]; dsimp only; rw [hg]; rfl
      rw [hr]
      have HF := hide (whole_gone h j t hj hg)
      clear hr h hg
      go_enter Try.func22, Try.ntmps22
      go_wp2_with fail
      refine (unhide HF).mono ?_
      rintro e w1 ⟨rfl, hst⟩
      have HBL := hide hst.below
      clear hst
      go_wp2
      exact bodyPost_ret (v := .tuple #[.int .i64 0, .int .i64 0, .int .i64 0, .int .i64 26]) (by simp [results, Try.results22, go_sem]) rfl ⟨rfl, unhide HBL⟩
  · have hr : robj R at' = (0, 0, 0, 23) := by unfold robj; rw [findJ_no hno]
    rw [hr]
    have HF := hide (whole_no h at' hno)
    clear hr h hno
    go_enter Try.func22, Try.ntmps22
    go_wp2_with fail
    refine (unhide HF).mono ?_
    rintro e w1 ⟨rfl, hst⟩
    have HBL := hide hst.below
    clear hst
    go_wp2
    exact bodyPost_ret (v := .tuple #[.int .i64 0, .int .i64 0, .int .i64 0, .int .i64 23]) (by simp [results, Try.results22, go_sem]) rfl ⟨rfl, unhide HBL⟩
theorem rget_any {w : World} {pr r : Nat} {rt : Nat → Nat} {R : RefSt} (h : RefAt w pr r rt R) (at' k : Int) :
    Calls Try.prog 24 #[.pointer (some ⟨pr, 0, none⟩), .int .i64 at', .int .i64 k] w fun e w' => e = .returned (.tuple #[.int .u64 ((rget R at' k).1 : Nat), .int .i64 ((rget R at' k).2 : Nat)]) ∧ Below w.heap.size w w' := by
  rcases at_cases R.L at' with ⟨j, hj, rfl⟩ | hno
  · cases hg : R.Gn.getD j none with
    | none =>
      have HF := hide (whole_yes h j hj hg)
      have HO := hide (fun wq k => h.six j hj wq k)
      obtain ⟨hf1, hf2, hf3⟩ := h.flds j hj
      have y0 : (0 : Int) ≤ (j : Int) := by omega
      have y1 : (j : Int) < (R.L.length : Int) := by omega
      by_cases hk : 0 ≤ k ∧ k < (fldsOf R.L j : Nat)
      · have hr : rget R (place R.L j : Nat) k = ((R.X.getD j []).getD k.toNat 0, 0) := by unfold rget; rw [findJ_yes hj rfl]; dsimp only; rw [hg]; dsimp only [Option.isSome]; rw [if_neg (by decide), if_pos hk]
        rw [hr]
        obtain ⟨m, rfl⟩ := Int.eq_ofNat_of_zero_le hk.1
        rw [Int.toNat_natCast]
        have hm : m < fldsOf R.L j := by omega
        have HX : Hid (∀ wq, Still w wq → ∀ aF cF, R.F.getD j undef = .slice aF (fldsOf R.L j) cF → ∃ gF, aF = some ⟨gF, 0, none⟩ ∧ wq.cell? ⟨gF, m, none⟩ = some (.int .u64 ((R.X.getD j []).getD m 0 : Nat))) := hide (fun wq k aF cF e => by
          obtain ⟨gF, cap, hv, _, hc⟩ := ((h.still k).fld j hj).1.at (by omega)
          rw [e] at hv
          simp only [Value.slice.injEq] at hv
          exact ⟨gF, hv.1, (hc m hm).1⟩)
        have d1 : decide ((m : Int) < 0) = false := decide_eq_false (by omega)
        have d2 : decide ((fldsOf R.L j : Int) ≤ (m : Int)) = false := decide_eq_false (by omega)
        have d2' : decide (fldsOf R.L j ≤ m) = false := decide_eq_false (by omega)
        have z0 : (0 : Int) ≤ (m : Int) := by omega
        have z1 : (m : Int) < (fldsOf R.L j : Int) := by omega
        generalize (R.X.getD j []).getD m 0 = xv at *
        generalize fldsOf R.L j = nf at *
        generalize place R.L j = pj at *
        clear hr h hg hf3 hf2 hk
        go_enter Try.func24, Try.ntmps24
        go_wp2_with fail
        refine (unhide HF).mono ?_
        rintro e w1 ⟨rfl, hst⟩
        obtain ⟨g, cap, aF, cF, c2, eF, o0, o1, o2, o3, o4, o5, _⟩ := unhide HO w1 hst
        obtain ⟨gF, rfl, hx⟩ := unhide HX w1 hst aF cF eF
        have HBL := hide hst.below
        clear o0 o1 o2 o4 o5 hst HO HF HX eF
        go_wp2
        go_ret2
        exact ⟨rfl, unhide HBL⟩
      · have hr : rget R (place R.L j : Nat) k = (0, 24) := by unfold rget; rw [findJ_yes hj rfl]; dsimp only; rw [hg]; dsimp only [Option.isSome]; rw [if_neg (by decide), if_neg hk]
        rw [hr]
        by_cases hk0 : k < 0
        · have d1 : decide (k < 0) = true := decide_eq_true hk0
          clear hr h hg hf3 hf2 hk HO
          go_enter Try.func24, Try.ntmps24
          go_wp2_with fail
          refine (unhide HF).mono ?_
          rintro e w1 ⟨rfl, hst⟩
          have HBL := hide hst.below
          clear hst
          go_wp2
          go_ret2
          exact ⟨rfl, unhide HBL⟩
        · have d1 : decide (k < 0) = false := decide_eq_false hk0
          have d2 : decide ((fldsOf R.L j : Int) ≤ k) = true := decide_eq_true (by omega)
          generalize fldsOf R.L j = nf at *
          generalize place R.L j = pj at *
          clear hr h hg hf3 hf2 hk
          go_enter Try.func24, Try.ntmps24
          go_wp2_with fail
          refine (unhide HF).mono ?_
          rintro e w1 ⟨rfl, hst⟩
          obtain ⟨g, cap, aF, cF, c2, eF, o0, o1, o2, o3, o4, o5, _⟩ := unhide HO w1 hst
          have HBL := hide hst.below
          clear o0 o1 o2 o4 o5 hst HO HF eF
          go_wp2
          go_ret2
          exact ⟨rfl, unhide HBL⟩
    | some t =>
      have hr : rget R (place R.L j : Nat) k = (0, 26) := by unfold rget; rw [findJ_yes hj rfl]; dsimp only; rw [hg]; rfl
      rw [hr]
      have HF := hide (whole_gone h j t hj hg)
      clear hr h hg
      go_enter Try.func24, Try.ntmps24
      go_wp2_with fail
      refine (unhide HF).mono ?_
      rintro e w1 ⟨rfl, hst⟩
      have HBL := hide hst.below
      clear hst
      go_wp2
      go_ret2
      exact ⟨rfl, unhide HBL⟩
  · have hr : rget R at' k = (0, 23) := by unfold rget; rw [findJ_no hno]
    rw [hr]
    have HF := hide (whole_no h at' hno)
    clear hr h hno
    go_enter Try.func24, Try.ntmps24
    go_wp2_with fail
    refine (unhide HF).mono ?_
    rintro e w1 ⟨rfl, hst⟩
    have HBL := hide hst.below
    clear hst
    go_wp2
    go_ret2
    exact ⟨rfl, unhide HBL⟩
theorem rmoved_any {w : World} {pr r : Nat} {rt : Nat → Nat} {R : RefSt} (h : RefAt w pr r rt R) (at' : Int) :
    Calls Try.prog 28 #[.pointer (some ⟨pr, 0, none⟩), .int .i64 at'] w fun e w' => e = .returned (.tuple #[.int .i64 ((rmoved R at').1 : Nat), .bool (rmoved R at').2.1, .int .i64 ((rmoved R at').2.2 : Nat)]) ∧ Below w.heap.size w w' := by
  rcases at_cases R.L at' with ⟨j, hj, rfl⟩ | hno
  · have HF := hide (find_yes h j hj)
    have HO := hide (fun wq k => h.six j hj wq k)
    have y0 : (0 : Int) ≤ (j : Int) := by omega
    have y1 : (j : Int) < (R.L.length : Int) := by omega
    have d0 : decide ((j : Int) < 0) = false := decide_eq_false (by omega)
    cases hg : R.Gn.getD j none with
    | none =>
      have hr : rmoved R (place R.L j : Nat) = (0, false, 0) := by unfold rmoved; rw [findJ_yes hj rfl]; dsimp only; rw [hg]
      rw [hr]
      rw [hg] at HO
      clear hr h hg
      go_enter Try.func28, Try.ntmps28
      go_wp2_with fail
      refine (unhide HF).mono ?_
      rintro e w1 ⟨rfl, hst⟩
      obtain ⟨g, cap, aF, cF, c2, eF, o0, o1, o2, o3, o4, o5, _⟩ := unhide HO w1 hst
      have o4' : w1.cell? ⟨g, j * 6 + 4, none⟩ = some (.bool false) := o4
      have HBL := hide hst.below
      clear o0 o1 o2 o3 o4 o5 hst HO HF eF
      go_wp2
      go_ret3
      exact ⟨rfl, unhide HBL⟩
    | some t =>
      have hr : rmoved R (place R.L j : Nat) = (t, true, 0) := by unfold rmoved; rw [findJ_yes hj rfl]; dsimp only; rw [hg]
      rw [hr]
      rw [hg] at HO
      clear hr h hg
      go_enter Try.func28, Try.ntmps28
      go_wp2_with fail
      refine (unhide HF).mono ?_
      rintro e w1 ⟨rfl, hst⟩
      obtain ⟨g, cap, aF, cF, c2, eF, o0, o1, o2, o3, o4, o5, _⟩ := unhide HO w1 hst
      have o4' : w1.cell? ⟨g, j * 6 + 4, none⟩ = some (.bool true) := o4
      have o5' : w1.cell? ⟨g, j * 6 + 5, none⟩ = some (.int .i64 (t : Nat)) := o5
      have HBL := hide hst.below
      clear o0 o1 o2 o3 o4 o5 hst HO HF eF
      go_wp2
      go_ret3
      exact ⟨rfl, unhide HBL⟩
  · have hr : rmoved R at' = (0, false, 23) := by unfold rmoved; rw [findJ_no hno]
    rw [hr]
    have HF := hide (find_no h at' hno)
    clear hr h hno
    go_enter Try.func28, Try.ntmps28
    go_wp2_with fail
    refine (unhide HF).mono ?_
    rintro e w1 ⟨rfl, hst⟩
    have HBL := hide hst.below
    clear hst
    go_wp2
    go_ret3
    exact ⟨rfl, unhide HBL⟩
end Go.Proofs.Ytdgdnpgjbphgaab
