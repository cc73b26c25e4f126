/- lists: Take. -/
import Derived.Test.YtdgdnpgjbphgaabLists1
namespace Go.Proofs.Ytdgdnpgjbphgaab
open Go.ChangeShapes Go.WideShapes Go.ChangeAt Go.RowKit
set_option linter.unusedVariables false
set_option maxRecDepth 100000
set_option maxHeartbeats 4000000

theorem lists_take_nil {w0 w : World} {pw : Nat} {tag rt kt : Nat → Nat} {S : BookSt} {D : Nat → Option Dat} {V : Nat → Value} (h : WAt w0 w pw tag rt kt S D V) (X Y A B C : Int) (U : Nat) (sD : Value) (d : Dat) (hd : D (t3 X) = some d) (hsy : D (t3 Y) = none) :
    Calls Try.prog 15 #[.pointer (some ⟨pw, 0, none⟩), .agg #[.int .i64 8, .int .i64 X, .int .i64 Y, .int .i64 A, .int .i64 B, .int .i64 C, .int .u64 (U : Nat), sD]] w fun e w' => e = .returned (.bool true) ∧ Below w.heap.size w w' := by
  have hy := t3_lt Y
  obtain ⟨cpy, _⟩ := h.cp _ hy
  rw [hsy] at cpy
  have HTY := hide (fun w1 => three_nat Y w1)
  clear hsy
  obtain ⟨ty, hty⟩ : ∃ ty, ty = t3 Y := ⟨_, rfl⟩
  rw [← hty] at cpy hy HTY
  clear hty
  have v0 : (0 : Int) ≤ (ty : Int) := by omega
  have v1 : (ty : Int) < 3 := by omega
  have hx := t3_lt X
  obtain ⟨cp, _⟩ := h.cp _ hx
  obtain ⟨cq, _⟩ := h.cq _ hx
  have hb := h.bl _ _ hx hd
  have HT := hide (fun w1 => three_nat X w1)
  rw [hd] at cp cq
  have lpw := h.bk.fl.lt
  clear h hb hd
  have y0 : (0 : Int) ≤ (t3 X : Int) := by omega
  have y1 : (t3 X : Int) < 3 := by omega
  generalize t3 X = t at *
  go_enter Try.func15, Try.ntmps15
  go_wp2_with fail
  obtain ⟨w1, hw1⟩ : ∃ w1, w1 = w.alloc (.cells #[.int .i64 8, .int .i64 X, .int .i64 Y, .int .i64 A, .int .i64 B, .int .i64 C, .int .u64 (U : Nat), sD] 26) := ⟨_, rfl⟩
  rw [← hw1]
  have HB1 : Hid (Below w.heap.size w w1) := hide (by rw [hw1]; exact (Below.refl _ _).alloc (Nat.le_refl _) _)
  have e1 : w1.cell? ⟨pw, t, none⟩ = some (.pointer (some ⟨d.p, 0, none⟩)) := ((unhide HB1).cell (p := ⟨pw, t, none⟩) lpw).trans cp
  have e2 : w1.cell? ⟨pw, 3 + t, none⟩ = some (.pointer (some ⟨d.pr, 0, none⟩)) := ((unhide HB1).cell (p := ⟨pw, 3 + t, none⟩) lpw).trans cq
  have hop : w1.heap[w.heap.size]? = some (.cells #[.int .i64 8, .int .i64 X, .int .i64 Y, .int .i64 A, .int .i64 B, .int .i64 C, .int .u64 (U : Nat), sD] 26) := by rw [hw1]; exact heap_alloc_new w _
  have hbo : w.heap.size < w1.heap.size := by rw [hw1]; simp
  have HOP : Hid (∀ wq, Below w1.heap.size w1 wq → wq.cell? ⟨w.heap.size, 0, none⟩ = some (.int .i64 8) ∧ wq.cell? ⟨w.heap.size, 1, none⟩ = some (.int .i64 X) ∧ wq.cell? ⟨w.heap.size, 2, none⟩ = some (.int .i64 Y) ∧ wq.cell? ⟨w.heap.size, 3, none⟩ = some (.int .i64 A)) := hide (fun wq k => by
    have e := k.block w.heap.size hbo
    rw [hop] at e
    simp only [World.cell?, e]
    exact ⟨rfl, rfl, rfl, rfl⟩)
  have HLO := hide hbo
  have lpw1 : pw < w1.heap.size := by omega
  have HPW : Hid (∀ wq, Below w1.heap.size w1 wq → wq.cell? ⟨pw, t, none⟩ = some (.pointer (some ⟨d.p, 0, none⟩)) ∧ wq.cell? ⟨pw, 3 + t, none⟩ = some (.pointer (some ⟨d.pr, 0, none⟩))) := hide (fun wq k => ⟨(k.cell (p := ⟨pw, t, none⟩) lpw1).trans e1, (k.cell (p := ⟨pw, 3 + t, none⟩) lpw1).trans e2⟩)
  obtain ⟨o0, o1, o2, o3⟩ := unhide HOP w1 (Below.refl _ _)
  have HPY : Hid (∀ wq, Below w1.heap.size w1 wq → wq.cell? ⟨pw, ty, none⟩ = some (.pointer none)) := hide (fun wq k => (k.cell (p := ⟨pw, ty, none⟩) lpw1).trans (((unhide HB1).cell (p := ⟨pw, ty, none⟩) lpw).trans cpy))
  clear hop hbo hw1 cp cq cpy
  go_quiet (first | (go_at_call 12; exact Calls.quiet_of_same (unhide HT _)))
  obtain ⟨w2, hw2⟩ : ∃ w2, w2 = w1.drewN nq := ⟨_, rfl⟩
  rw [← hw2]
  have HC2 : Hid (Below w1.heap.size w1 w2) := hide (by rw [hw2]; exact below_drewN (Below.refl _ _) nq)
  have HB2 : Hid (Below w.heap.size w w2) := hide ((unhide HB1).trans ((unhide HC2).mono (unhide HB1).size))
  clear hw2 e1 e2 lpw1 o0 o1 o2 o3
  obtain ⟨o0, o1, o2, o3⟩ := unhide HOP w2 (unhide HC2)
  have m1 := unhide HPY w2 (unhide HC2)
  go_wp2_with fail
  go_quiet (first | (go_at_call 12; exact Calls.quiet_of_same (unhide HTY _)))
  go_wp2
  go_ret
  exact ⟨rfl, below_drewN (unhide HB2) nq⟩
theorem WAt.refOnly {w0 w : World} {pw : Nat} {tag rt kt : Nat → Nat} {S : BookSt} {D : Nat → Option Dat} {V : Nat → Value} (h : WAt w0 w pw tag rt kt S D V) {w' : World} {rt' : Nat → Nat} (c : RChg (fun _ => False) rt rt' w w') : WAt w0 w' pw tag rt' kt S D V :=
  h.core c.size ⟨c.os, c.tape, c.output⟩ (fun g hg _ _ => c.blk g hg id) (fun g hg => c.tg g hg) c.un D (fun _ _ => ⟨rfl, rfl⟩) (fun i d hi hd => (h.bl i d hi hd).keep c.size (fun g hg _ => c.blk g hg id) (fun g hg _ => c.blk g hg id) (fun g hg => c.tg g hg))
theorem still_below {w w1 w2 : World} (h : Below w.heap.size w w1) (k : Still w1 w2) : Below w.heap.size w w2 := h.trans (k.below.mono h.size)
/-- what stays, behind a change of the blocks B -/
theorem WAt.stays {w0 w : World} {pw : Nat} {tag rt kt : Nat → Nat} {S : BookSt} {D : Nat → Option Dat} {V : Nat → Value} (h : WAt w0 w pw tag rt kt S D V) {B : List Nat} (hB : ∀ x ∈ B, kt x ≠ 0) {wq w3 : World} (k : Below w.heap.size w wq) (b : But B wq w3) : w3.heap[pw]? = wq.heap[pw]? ∧ ∀ g, g < wq.heap.size → w.heap.size ≤ g → w3.heap[g]? = wq.heap[g]? :=
  ⟨b.block pw (Nat.lt_of_lt_of_le h.bk.fl.lt k.size) (fun hx => hB pw hx h.tp.2), fun g h1 h2 => b.block g h1 (fun hx => by have := h.un g (.inr (hB g hx)); omega)⟩
theorem WAt.stays2 {w0 w : World} {pw : Nat} {tag rt kt : Nat → Nat} {S : BookSt} {D : Nat → Option Dat} {V : Nat → Value} (h : WAt w0 w pw tag rt kt S D V) {P : Nat → Prop} (hP : ¬ P 0) {rt' : Nat → Nat} {wq w3 : World} (k : Below w.heap.size w wq) (c : RChg P rt rt' wq w3) : w3.heap[pw]? = wq.heap[pw]? ∧ ∀ g, g < wq.heap.size → w.heap.size ≤ g → w3.heap[g]? = wq.heap[g]? :=
  ⟨c.blk pw (Nat.lt_of_lt_of_le h.bk.fl.lt k.size) (by rw [h.tp.1]; exact hP), fun g h1 h2 => c.blk g h1 (by
    have : rt g = 0 := by
      cases e : rt g with
      | zero => rfl
      | succ m => have := h.un g (.inl (by omega)); omega
    rw [this]; exact hP)⟩
theorem But.drewn {B : List Nat} {w w' : World} (h : But B w w') : But B w w'.drew := ⟨h.os, h.tape, h.output, h.size, h.block⟩
/-- the size of what is taken -/
theorem full_words {R : RefSt} {j : Nat} : 1 + (R.L.getD j (0, 0, 0)).2.1 + (R.L.getD j (0, 0, 0)).2.2 = 1 + fldsOf R.L j := by unfold fldsOf; omega
/-- the document's block behind a lay -/
theorem lay_ok {R : RefSt} (o : RefOk R) (j : Nat) (hj : j < R.L.length) (F v : Value) (hfit : R.used + 1 + fldsOf R.L j ≤ R.size) : RefOk (R.lay (R.L.getD j (0, 0, 0)).1 (R.L.getD j (0, 0, 0)).2.1 (R.L.getD j (0, 0, 0)).2.2 (R.X.getD j []) F v) := by
  have hfl : fldsOf R.L j = (R.L.getD j (0, 0, 0)).2.1 + (R.L.getD j (0, 0, 0)).2.2 := rfl
  have hLl : (R.lay (R.L.getD j (0, 0, 0)).1 (R.L.getD j (0, 0, 0)).2.1 (R.L.getD j (0, 0, 0)).2.2 (R.X.getD j []) F v).L.length = R.L.length + 1 := by show (R.L ++ [_]).length = _; simp
  have hX : ∀ i, i ≤ R.L.length → (R.X ++ [R.X.getD j []]).getD i [] = if i = R.L.length then R.X.getD j [] else R.X.getD i [] := fun i hi => by
    by_cases e : i = R.L.length
    · rw [if_pos e, getD_last _ _ _ _ (by rw [o.xl]; exact e.symm)]
    · rw [if_neg e, getD_old _ _ _ _ (by rw [o.xl]; omega)]
  have hG : ∀ i, (R.Gn ++ [none]).getD i none = R.Gn.getD i none := fun i => by
    by_cases e : i < R.Gn.length
    · rw [getD_old _ _ _ _ e]
    · rw [List.getD_eq_getElem?_getD, List.getD_eq_getElem?_getD, List.getElem?_append_right (by omega), List.getElem?_eq_none (l := R.Gn) (by omega)]
      cases h : i - R.Gn.length <;> simp
  refine ⟨by show (R.X ++ [_]).length = (R.L ++ [_]).length; simp [o.xl], by show (R.Gn ++ [_]).length = (R.L ++ [_]).length; simp [o.gl], fun i hi => ?_, by rw [used_lay]; show _ ≤ R.size; omega, o.sz, fun i k => ?_, fun i t hi => ?_, fun i hi => ?_⟩
  · show ((R.X ++ [R.X.getD j []]).getD i []).length = fldsOf (R.L ++ [_]) i
    rw [hX i (by omega)]
    by_cases e : i = R.L.length
    · rw [if_pos e, o.xs j hj, e]
      unfold fldsOf
      rw [getD_last _ _ _ _ rfl]
    · rw [if_neg e, o.xs i (by omega), flds_old _ _ _ (by omega)]
  · show ((R.X ++ [R.X.getD j []]).getD i []).getD k 0 < _
    by_cases e : i ≤ R.L.length
    · rw [hX i e]
      split
      · exact o.sm j k
      · exact o.sm i k
    · rw [List.getD_eq_getElem?_getD (l := R.X ++ [R.X.getD j []]), List.getElem?_eq_none (by simp [o.xl]; omega)]
      simp
  · have hi' : (R.Gn ++ [none]).getD i none = some t := hi
    rw [hG i] at hi'
    exact o.go i t hi'
  · show 1 ≤ ((R.L ++ [_]).getD i (0, 0, 0)).1 ∧ ((R.L ++ [_]).getD i (0, 0, 0)).1 ≤ 255
    by_cases e : i = R.L.length
    · rw [getD_last _ _ _ _ e.symm]; exact o.sh j hj
    · rw [getD_old _ _ _ _ (by omega)]; exact o.sh i (by omega)
theorem lists_take {w0 w : World} {pw : Nat} {tag rt kt : Nat → Nat} {S : BookSt} {D : Nat → Option Dat} {V : Nat → Value} (h : WAt w0 w pw tag rt kt S D V) (X Y A B C : Int) (U : Nat) (sD : Value) (d : Dat) (hd : D (t3 X) = some d) :
    Calls Try.prog 15 #[.pointer (some ⟨pw, 0, none⟩), .agg #[.int .i64 8, .int .i64 X, .int .i64 Y, .int .i64 A, .int .i64 B, .int .i64 C, .int .u64 (U : Nat), sD]] w fun e w' => e = .returned (.bool true) ∧ ∃ tag' rt' kt' S' D' V', WAt w0 w' pw tag' rt' kt' S' D' V' ∧ S'.turn ≤ S.turn + 1 := by
  cases hsy : D (t3 Y) with
  | none =>
    refine (lists_take_nil h X Y A B C U sD d hd hsy).mono ?_
    rintro e w' ⟨rfl, hb⟩
    exact ⟨rfl, tag, rt, kt, S, D, V, h.below hb, by omega⟩
  | some s =>
    have hx := t3_lt X
    have hy := t3_lt Y
    have bx := h.bl _ _ hx hd
    have bys := h.bl _ _ hy hsy
    rcases at_cases s.R.L A with ⟨j, hj, rfl⟩ | hno
    · cases hg : s.R.Gn.getD j none with
      | some t =>
        have hmv := (bys.rel.moved bys.ref.ok (place s.R.L j : Nat)).trans (rmoved_some hj hg)
        refine lists_take_core h X Y _ B C U sD d hd s hsy t 0 Still (fun a b => Below a.heap.size a b) _ (fun wq k => ?_) (fun wq w3 k => ⟨k.os, k.tape, k.output, k.heap⟩) (fun wq w3 k p => ⟨by rw [p.heap], fun g _ _ => by rw [p.heap]⟩) (fun wq w3 k p => rtake_gone ((bys.ref.below k).still p) j t hj hg) (fun wq w3 w4 k p q => ⟨?_, fun g h1 h2 => ?_⟩) (fun wq w3 w4 k p q => ⟨tag, rt, kt, S, D, V, h.below ((still_below k p).trans (q.mono (still_below k p).size)), by omega⟩)
        · have := take_not (.pointer (some ⟨d.p, 0, none⟩)) (place s.R.L j : Nat) wq (bys.ar.below k) (.inl (by rw [hmv]))
          rw [hmv] at this
          refine this.mono ?_
          rintro e w' ⟨rfl, hw'⟩
          obtain rfl := hw'.symm
          exact ⟨rfl, Still.refl _⟩
        · rw [q.block pw (Nat.lt_of_lt_of_le h.bk.fl.lt (still_below k p).size), p.heap]
        · rw [q.block g (by rw [p.heap]; exact h1), p.heap]
      | none =>
        have hob := (bys.rel.obj bys.ref.ok (place s.R.L j : Nat)).trans (robj_none hj hg)
        have hfl : fldsOf s.R.L j = (s.R.L.getD j (0, 0, 0)).2.1 + (s.R.L.getD j (0, 0, 0)).2.2 := rfl
        have hdsz := bx.rel.sz
        have hdus := bx.rel.us
        by_cases hxy : t3 Y = t3 X
        · rw [hxy, hd] at hsy
          injection hsy with hsy
          subst hsy
          have hBk : ∀ x ∈ [d.p, d.bh, d.bw], kt x ≠ 0 := fun x hx2 => by
            simp at hx2
            rcases hx2 with rfl | rfl | rfl
            · rw [bx.t1]; omega
            · rw [bx.t3]; omega
            · rw [bx.t2]; omega
          have hsy' : D (t3 Y) = some d := by rw [hxy]; exact hd
          by_cases hfit : d.R.size < d.R.used + 1 + fldsOf d.R.L j
          · refine lists_take_core h X Y _ B C U sD d hd d hsy' 0 22 (fun a b => Below a.heap.size a b) (fun a b => ∃ rt', RChg (fun _ => False) rt rt' a b) _ (fun wq k => ?_) (fun wq w3 k => k.drew) (fun wq w3 k p => h.stays (B := []) (by simp) k (But.of_below p)) (fun wq w3 k p => ?_) (fun wq w3 w4 k p ⟨rt', q⟩ => ?_) (fun wq w3 w4 k p ⟨rt', q⟩ => ⟨tag, rt', kt, S, D, V, (h.below (k.trans (p.mono k.size))).refOnly q, by omega⟩)
            · exact take_full_self (place d.R.L j) _ _ _ wq (bx.ar.below k) (bx.rel.sound bx.ref.ok).heads hob (by rw [full_words]; omega)
            · have k3 := k.trans (p.mono k.size)
              exact rtake_full (bx.ref.below k3) (bx.ref.below k3) (fun g hg2 => Nat.lt_of_lt_of_le (h.un g (.inl hg2)) k3.size) j hj hg hfit
            · have k3 := k.trans (p.mono k.size)
              have e1 := h.stays (B := []) (by simp) k (But.of_below p)
              have e2 := h.stays2 (P := fun _ => False) id k3 q
              exact ⟨e2.1.trans e1.1, fun g h1 h2 => (e2.2 g (Nat.lt_of_lt_of_le h1 p.size) h2).trans (e1.2 g h1 h2)⟩
          · refine lists_take_core h X Y _ B C U sD d hd d hsy' d.R.used 0 (fun a b => But [d.p, d.bh, d.bw] a b ∧ Ar b d.p d.bw d.bh ((patch d.ws d.used (runL d.ws (place d.R.L j) (1 + (d.R.L.getD j (0, 0, 0)).2.1 + (d.R.L.getD j (0, 0, 0)).2.2))).set (place d.R.L j) (9223372036854775808 + d.used)) (mark d.hs d.used (1 + (d.R.L.getD j (0, 0, 0)).2.1 + (d.R.L.getD j (0, 0, 0)).2.2)) (d.used + (1 + (d.R.L.getD j (0, 0, 0)).2.1 + (d.R.L.getD j (0, 0, 0)).2.2))) (fun a b => ∃ rt' F v, RefAt b d.pr (t3 X) rt' ((d.R.lay (d.R.L.getD j (0, 0, 0)).1 (d.R.L.getD j (0, 0, 0)).2.1 (d.R.L.getD j (0, 0, 0)).2.2 (d.R.X.getD j []) F v).mark j d.R.used) ∧ RChg (Mine (t3 X)) rt rt' a b) _ (fun wq k => ?_) (fun wq w3 p => ⟨p.1.drewn, p.2.drawn 1⟩) (fun wq w3 k p => h.stays hBk k p.1) (fun wq w3 k p => ?_) (fun wq w3 w4 k p ⟨rt', F, v, q1, q2⟩ => ?_) (fun wq w3 w4 k p ⟨rt', F, v, q1, q2⟩ => ?_)
            · refine (take_self (place d.R.L j) _ _ _ wq (bx.ar.below k) (bx.rel.sound bx.ref.ok).heads hob (by rw [full_words]; omega)).mono ?_
              rintro e w' ⟨rfl, a1, a2⟩
              exact ⟨by rw [hdus]; rfl, a2, a1⟩
            · have hr := (h.below k).refs p.1 hBk
              exact rtake_same (hr.1 _ _ hx hd) hr.2 j hj hg (by omega)
            · have e1 := h.stays hBk k p.1
              have hs3 := p.1.size
              refine ⟨(q2.blk pw (by have := h.bk.fl.lt; have := k.size; omega) (by rw [h.tp.1]; exact mine0 _)).trans e1.1, fun g h1 h2 => (q2.blk g (by omega) ?_).trans (e1.2 g h1 h2)⟩
              have : rt g = 0 := by
                cases e : rt g with
                | zero => rfl
                | succ m => have := h.un g (.inl (by omega)); omega
              rw [this]; exact mine0 _
            · have hrl := take_rel bx.rel bx.ref.ok bx.rel bx.ref.ok j hj hg F v (by rw [full_words]; omega)
              have hok : RefOk (d.R.lay (d.R.L.getD j (0, 0, 0)).1 (d.R.L.getD j (0, 0, 0)).2.1 (d.R.L.getD j (0, 0, 0)).2.2 (d.R.X.getD j []) F v) := lay_ok bx.ref.ok j hj F v (by omega)
              have hjl : j < (d.R.lay (d.R.L.getD j (0, 0, 0)).1 (d.R.L.getD j (0, 0, 0)).2.1 (d.R.L.getD j (0, 0, 0)).2.2 (d.R.X.getD j []) F v).L.length := by show j < (d.R.L ++ [_]).length; simp; omega
              have hrg := hrl.gone hok j d.R.used hjl
              have epl : place (d.R.lay (d.R.L.getD j (0, 0, 0)).1 (d.R.L.getD j (0, 0, 0)).2.1 (d.R.L.getD j (0, 0, 0)).2.2 (d.R.X.getD j []) F v).L j = place d.R.L j := place_old _ _ _ (by omega)
              rw [epl] at hrg
              rw [hdus] at p
              rw [hdus] at hrg
              exact ⟨tag, rt', kt, S, _, V, (h.below k).one hx hd (p.1.over (by simp)) q2 _ _ _ _ p.2 q1 hrg, by omega⟩
        · have hBk : ∀ x ∈ [d.p, d.bh, d.bw, s.bw], kt x ≠ 0 := fun x hx2 => by
            simp at hx2
            rcases hx2 with rfl | rfl | rfl | rfl
            · rw [bx.t1]; omega
            · rw [bx.t3]; omega
            · rw [bx.t2]; omega
            · rw [bys.t2]; omega
          by_cases hfit : d.R.size < d.R.used + 1 + fldsOf s.R.L j
          · refine lists_take_core h X Y _ B C U sD d hd s hsy 0 22 (fun a b => Below a.heap.size a b) (fun a b => ∃ rt', RChg (fun _ => False) rt rt' a b) _ (fun wq k => ?_) (fun wq w3 k => k.drew) (fun wq w3 k p => h.stays (B := []) (by simp) k (But.of_below p)) (fun wq w3 k p => ?_) (fun wq w3 w4 k p ⟨rt', q⟩ => ?_) (fun wq w3 w4 k p ⟨rt', q⟩ => ⟨tag, rt', kt, S, D, V, (h.below (k.trans (p.mono k.size))).refOnly q, by omega⟩)
            · exact take_full (place s.R.L j) _ _ _ wq (bx.ar.below k) (bys.ar.below k) (bys.rel.sound bys.ref.ok).heads hob (by rw [full_words]; omega)
            · have k3 := k.trans (p.mono k.size)
              exact rtake_full (bys.ref.below k3) (bx.ref.below k3) (fun g hg2 => Nat.lt_of_lt_of_le (h.un g (.inl hg2)) k3.size) j hj hg hfit
            · have k3 := k.trans (p.mono k.size)
              have e1 := h.stays (B := []) (by simp) k (But.of_below p)
              have e2 := h.stays2 (P := fun _ => False) id k3 q
              exact ⟨e2.1.trans e1.1, fun g h1 h2 => (e2.2 g (Nat.lt_of_lt_of_le h1 p.size) h2).trans (e1.2 g h1 h2)⟩
          · have n1 : ∀ x, kt x = 2 + t3 Y → x ∉ [d.p, d.bh, d.bw] := fun x e hm => by
              simp at hm
              rcases hm with rfl | rfl | rfl
              · rw [bx.t1] at e; omega
              · rw [bx.t3] at e; omega
              · rw [bx.t2] at e; omega
            refine lists_take_core h X Y _ B C U sD d hd s hsy d.R.used 0 (fun a b => But [d.p, d.bh, d.bw, s.bw] a b ∧ Ar b d.p d.bw d.bh (patch d.ws d.used (runL s.ws (place s.R.L j) (1 + (s.R.L.getD j (0, 0, 0)).2.1 + (s.R.L.getD j (0, 0, 0)).2.2))) (mark d.hs d.used (1 + (s.R.L.getD j (0, 0, 0)).2.1 + (s.R.L.getD j (0, 0, 0)).2.2)) (d.used + (1 + (s.R.L.getD j (0, 0, 0)).2.1 + (s.R.L.getD j (0, 0, 0)).2.2)) ∧ Ar b s.p s.bw s.bh (s.ws.set (place s.R.L j) (9223372036854775808 + d.used)) s.hs s.used) (fun a b => ∃ rt' F v, RefAt b d.pr (t3 X) rt' (d.R.lay (s.R.L.getD j (0, 0, 0)).1 (s.R.L.getD j (0, 0, 0)).2.1 (s.R.L.getD j (0, 0, 0)).2.2 (s.R.X.getD j []) F v) ∧ RefAt b s.pr (t3 Y) rt' (s.R.mark j d.R.used) ∧ RChg (fun k => Mine (t3 Y) k ∨ Mine (t3 X) k) rt rt' a b) _ (fun wq k => ?_) (fun wq w3 p => ⟨p.1.drewn, p.2.1.drawn 1, p.2.2.drawn 1⟩) (fun wq w3 k p => h.stays hBk k p.1) (fun wq w3 k p => ?_) (fun wq w3 w4 k p ⟨rt', F, v, q1, q2, q3⟩ => ?_) (fun wq w3 w4 k p ⟨rt', F, v, q1, q2, q3⟩ => ?_)
            · refine (take_yes (place s.R.L j) _ _ _ wq (bx.ar.below k) (bys.ar.below k) (bys.rel.sound bys.ref.ok).heads (n1 _ bys.t1) (n1 _ bys.t2) (n1 _ bys.t3) hob (by rw [full_words]; omega)).mono ?_
              rintro e w' ⟨rfl, a1, a2, a3⟩
              exact ⟨by rw [hdus]; rfl, a3, a1, a2⟩
            · have hr := (h.below k).refs p.1 hBk
              exact rtake_other (hr.1 _ _ hy hsy) (hr.1 _ _ hx hd) hr.2 (by omega) j hj hg (by omega)
            · have e1 := h.stays hBk k p.1
              have hs3 := p.1.size
              have n0 : ¬ (Mine (t3 Y) 0 ∨ Mine (t3 X) 0) := fun e => by rcases e with e | e <;> exact mine0 _ e
              refine ⟨(q3.blk pw (by have := h.bk.fl.lt; have := k.size; omega) (by rw [h.tp.1]; exact n0)).trans e1.1, fun g h1 h2 => (q3.blk g (by omega) ?_).trans (e1.2 g h1 h2)⟩
              have : rt g = 0 := by
                cases e : rt g with
                | zero => rfl
                | succ m => have := h.un g (.inl (by omega)); omega
              rw [this]; exact n0
            · have hrl := take_rel bx.rel bx.ref.ok bys.rel bys.ref.ok j hj hg F v (by rw [full_words]; omega)
              have hrg := bys.rel.gone bys.ref.ok j d.R.used hj
              have e3 := p.2.2
              rw [hdus] at e3
              exact ⟨tag, rt', kt, S, _, V, (h.below k).two hx hy hxy hd hsy p.1 q3 _ _ _ _ _ _ p.2.1 e3 q1 q2 hrl hrg, by omega⟩
    · have hmv := (bys.rel.moved bys.ref.ok A).trans (rmoved_no hno)
      refine lists_take_core h X Y A B C U sD d hd s hsy 0 23 Still Still _ (fun wq k => ?_) (fun wq w3 k => ⟨k.os, k.tape, k.output, k.heap⟩) (fun wq w3 k p => ⟨by rw [p.heap], fun g _ _ => by rw [p.heap]⟩) (fun wq w3 k p => rtake_none ((bys.ref.below k).still p) A hno) (fun wq w3 w4 k p q => ⟨by rw [q.heap, p.heap], fun g _ _ => by rw [q.heap, p.heap]⟩) (fun wq w3 w4 k p q => ⟨tag, rt, kt, S, D, V, h.below (still_below k (p.trans q)), by omega⟩)
      have := take_not (.pointer (some ⟨d.p, 0, none⟩)) A wq (bys.ar.below k) (.inr (by rw [hmv]; decide))
      rw [hmv] at this
      refine this.mono ?_
      rintro e w' ⟨rfl, hw'⟩
      obtain rfl := hw'.symm
      exact ⟨rfl, Still.refl _⟩
end Go.Proofs.Ytdgdnpgjbphgaab
