/- The document's block: Image. -/
import Derived.Test.YtdgdnpgjbphgaabRefAlloc
import Derived.Test.YtdgdnpgjbphgaabRefTake
namespace Go.Proofs.Ytdgdnpgjbphgaab
open Go.ChangeShapes Go.WideShapes Go.ChangeAt Go.RowKit
set_option linter.unusedVariables false
set_option maxRecDepth 100000
set_option maxHeartbeats 4000000

/-- what stands where object j begins -/
def rword (R : RefSt) (j : Nat) : Nat :=
  match R.Gn.getD j none with
  | none => (R.L.getD j (0, 0, 0)).1 + 256 * (R.L.getD j (0, 0, 0)).2.1 + 4294967296 * (R.L.getD j (0, 0, 0)).2.2
  | some t => 9223372036854775808 + t
def rimg (R : RefSt) (m : Nat) : List Nat := 0 :: (List.range m).flatMap (fun j => rword R j :: R.X.getD j [])
theorem rimg_succ (R : RefSt) (m : Nat) : rimg R (m + 1) = rimg R m ++ [rword R m] ++ R.X.getD m [] := by
  unfold rimg
  rw [List.range_succ, List.flatMap_append]
  simp
theorem rimg_len {w : World} {pr r : Nat} {rt : Nat → Nat} {R : RefSt} (h : RefAt w pr r rt R) : ∀ m, m ≤ R.L.length → (rimg R m).length = place R.L m
  | 0, _ => rfl
  | m + 1, hm => by
    rw [rimg_succ, List.length_append, List.length_append, rimg_len h m (by omega), h.xs m (by omega)]
    show _ = place R.L m + wd (R.L.getD m (0, 0, 0))
    unfold wd fldsOf
    simp
    omega
/-- a list is appended to a list of our own -/
theorem append_own_line {P : Program} {w : World} {ops : Array Oper} {rest : List Oper} {o : Oper} {a : Act} {Q : Exit → Act → World → Prop} (hgd : o.guard = none) (s x : Operand) (t : TypeId) (ho : o.op = .call { callee := .builtin .append, args := #[s, x], argTypes := #[t, t] })
    (base : Nat) (e : TypeId) (i : TypeInfo) (z : Value) (bytes : Nat) (ht : P.underlying t = some (.slice e)) (hi : P.info? e = some i) (hz : i.zero = some z) (hsize : i.size = 1) (hby : i.bytes = bytes) (hzs : z.cells.size = 1)
    (v : Value) (n : Nat) (xs : List Value) (hs : a.eval s = v) (hown : w.ownsRow base e 1 v n xs) (xv : Value) (hxv : a.eval x = xv) (m : Nat) (f : Nat → Value) (hx : (m = 0 ∧ ∃ c, xv = .slice none 0 c) ∨ (∃ ad c, xv = .slice (some ad) m c ∧ ∀ j, j < m → w.cell? (ad.add j) = some (f j))) (h1 : ∀ j, (f j).oneCell' = true) (hbase : base ≤ w.heap.size) (hn : (n + m) * bytes ≤ 140737488355328) (hn2 : n + m ≤ 9007199254740992)
    (h : ∀ v' w', w'.ownsRow base e 1 v' (n + m) (xs ++ (List.range m).map f) → w.grownBy w' v.ownBlock → wpList P ops Q rest (a.put o.dst v') w') : wpList P ops Q (o :: rest) a w := by
  rcases hx with ⟨rfl, c, rfl⟩ | ⟨ad, c, rfl, hc⟩
  · have hnc : ∃ b sl sc, v = .slice b sl sc ∧ sl ≤ sc := by
      rcases hown.2 with ⟨rfl, _⟩ | ⟨g, cap, cur, rfl, _, _, hnc, _⟩
      · exact ⟨_, _, _, rfl, Nat.le_refl _⟩
      · exact ⟨_, _, _, rfl, hnc⟩
    obtain ⟨b, sl, sc, rfl, hle⟩ := hnc
    have hr := run_append_nothing w t t o.type e i ht hi b sl sc hle _ (Src.ofNil w (size := i.size) ht c)
    refine wpList_plain hgd fun _ hK => wp_appended s x t ho _ _ hs hxv _ _ hr (hK _ _ (h _ _ (by simpa using hown) ⟨rfl, rfl, rfl, Nat.le_refl _, fun _ _ _ => rfl⟩))
  · refine wpList_append_own w hgd s x t ho base e i z 1 bytes ht hi hz hsize hby hzs (by omega) v n xs hs hown ad m c ((List.range m).map f) hxv (by simp) (fun j u hj => ?_) (fun u hu => ?_) (by simp only [maxLen]; omega) hn hbase (fun v' w' q1 q2 _ => h v' w' q1 q2)
    · have hjl : j < m := by simpa using (List.getElem?_eq_some_iff.1 hj).1
      rw [List.getElem?_map, List.getElem?_range hjl] at hj
      simp at hj
      rw [← hj]
      exact hc j hjl
    · obtain ⟨j, _, rfl⟩ := List.mem_map.1 hu
      exact h1 j
theorem Line.news2 {w : World} {e : TypeId} {v : Value} {n : Nat} {f : Nat → Value} (h : Line w e v n f) : (n = 0 ∧ ∃ c, v = .slice none 0 c) ∨ (∃ ad c, v = .slice (some ad) n c ∧ ∀ j, j < n → w.cell? (ad.add j) = some (f j)) := by
  rcases h with ⟨rfl, h0⟩ | ⟨g, cap, cur, rfl, hg, r⟩
  · exact .inl ⟨h0, 0, rfl⟩
  · refine .inr ⟨_, cap, rfl, fun j hj => ?_⟩
    rw [add_at]
    simp only [World.cell?, hg]
    exact r.2.2.2 j hj
theorem map_range (l : List Nat) : (List.range l.length).map (fun i => w64 (l.getD i 0)) = l.map w64 := by
  apply List.ext_getElem?
  intro i
  rw [List.getElem?_map, List.getElem?_map]
  by_cases hil : i < l.length
  · rw [List.getElem?_range hil, List.getElem?_eq_getElem hil]
    simp only [Option.map_some, List.getD_eq_getElem?_getD, List.getElem?_eq_getElem hil, Option.getD_some]
  · rw [List.getElem?_eq_none (l := List.range _) (by simpa using hil), List.getElem?_eq_none (by omega)]
    rfl
theorem own_same {w w' : World} {base : Nat} {e : TypeId} {sz : Nat} {v : Value} {n : Nat} {xs : List Value} (h : w.ownsRow base e sz v n xs) (hb : ∀ g, v.ownBlock = some g → w'.heap[g]? = w.heap[g]?) : w'.ownsRow base e sz v n xs := by
  refine ⟨h.1, ?_⟩
  rcases h.2 with h | ⟨g, cap, cur, rfl, h1, h2, h3⟩
  · exact .inl h
  · exact .inr ⟨g, cap, cur, rfl, h1, by rw [hb g rfl]; exact h2, h3⟩
theorem own_lt {w : World} {base : Nat} {e : TypeId} {v : Value} {n : Nat} {xs : List Value} (h : w.ownsRow base e 1 v n xs) : ∀ g, v.ownBlock = some g → g < w.heap.size := (line_of_own h).1.lt
structure Imaged (R : RefSt) (w wq : World) (v : Value) (m : Nat) : Prop where
  below : Below w.heap.size w wq
  own : wq.ownsRow w.heap.size 24 1 v (place R.L m) ((rimg R m).map w64)
theorem Imaged.block {R : RefSt} {w wq : World} {v : Value} {m : Nat} (h : Imaged R w wq v m) : ∀ g, v.ownBlock = some g → w.heap.size ≤ g := (line_of_own h.own).2
theorem rimage_any {w : World} {pr r : Nat} {rt : Nat → Nat} {R : RefSt} (h : RefAt w pr r rt R) :
    Calls Try.prog 41 #[.pointer (some ⟨pr, 0, none⟩)] w fun e w' => (∃ v, e = .returned v ∧ Line w' 24 v R.used (fun k => w64 ((rimg R R.L.length).getD k 0)) ∧ ∀ g, v.ownBlock = some g → w.heap.size ≤ g) ∧ Below w.heap.size w w' := by
  obtain ⟨a0, cp0, hv0⟩ := h.row.shape
  have HR : Hid (∀ wq, Below w.heap.size w wq → RefAt wq pr r rt R ∧ wq.cell? ⟨pr, 2, none⟩ = some (.slice a0 R.L.length cp0)) := hide (fun wq k => by
    have hk : RefAt wq pr r rt R := h.conf k.size (fun g hg _ => k.block g hg) (fun _ _ _ => rfl)
    exact ⟨hk, by rw [← hv0]; exact hk.c2⟩)
  have hll : R.L.length ≤ 1048576 := by
    have h3 : ∀ m, m + 1 ≤ place R.L m := fun m => by
      induction m with
      | zero => exact Nat.le_refl _
      | succ m ih => have := place_lt R.L (show m < m + 1 by omega); unfold wd at this; omega
    have h4 := h3 R.L.length
    have hu := h.u2
    have hs := h.sz
    unfold RefSt.used at hu
    omega
  obtain ⟨i0, hi, hx0, hx1, hx2⟩ := info_parts Try.info24
  have HEND : Hid (∀ wq v, Imaged R w wq v R.L.length → Line wq 24 v R.used (fun k => w64 ((rimg R R.L.length).getD k 0)) ∧ ∀ g, v.ownBlock = some g → w.heap.size ≤ g) := hide (fun wq v hh => by
    obtain ⟨l1, l2⟩ := line_of_own hh.own
    refine ⟨l1.congr (fun k hk => ?_), l2⟩
    have hkl : k < (rimg R R.L.length).length := by rw [rimg_len h _ (Nat.le_refl _)]; exact hk
    show ((rimg R R.L.length).map w64).getD k undef = w64 ((rimg R R.L.length).getD k 0)
    rw [List.getD_eq_getElem?_getD, List.getElem?_map, List.getD_eq_getElem?_getD, List.getElem?_eq_getElem hkl]
    rfl)
  have HP := hide (fun m (hm : m < R.L.length) => h.flds m hm)
  have HSH := hide h.sh
  have HPL : Hid (∀ m, m < R.L.length → place R.L m + 1 + fldsOf R.L m = place R.L (m + 1) ∧ place R.L (m + 1) ≤ 1048576) := hide (fun m hm => by
    have h1 := place_le R.L (show m + 1 ≤ R.L.length by omega)
    have hu := h.u2
    have hs := h.sz
    unfold RefSt.used at hu
    refine ⟨?_, by omega⟩
    show _ = place R.L m + wd (R.L.getD m (0, 0, 0))
    unfold wd fldsOf
    omega)
  have HHD : Hid (∀ m, m < R.L.length → ∀ wz, Calls Try.prog 60 #[.int .i64 ((R.L.getD m (0, 0, 0)).1 : Nat), .int .i64 ((R.L.getD m (0, 0, 0)).2.1 : Nat), .int .i64 ((fldsOf R.L m : Nat) - ((R.L.getD m (0, 0, 0)).2.1 : Nat))] wz fun e w' => e = .returned (.tuple #[.int .u64 (((R.L.getD m (0, 0, 0)).1 + 256 * (R.L.getD m (0, 0, 0)).2.1 + 4294967296 * (R.L.getD m (0, 0, 0)).2.2 : Nat)), .int .i64 0]) ∧ w' = wz) := hide (fun m hm wz => by
    obtain ⟨f1, f2, f3⟩ := h.flds m hm
    have f4 := h.sh m hm
    have := rhead_yes ((R.L.getD m (0, 0, 0)).1 : Nat) ((R.L.getD m (0, 0, 0)).2.1 : Nat) ((R.L.getD m (0, 0, 0)).2.2 : Nat) wz ⟨by omega, by omega, by omega, by omega, by omega, by omega⟩
    rw [f3]
    refine this.mono ?_
    rintro e w' ⟨rfl, rfl⟩
    exact ⟨by simp, rfl⟩)
  have HFL : Hid (∀ m, m < R.L.length → ∀ aF cF, R.F.getD m undef = .slice aF (fldsOf R.L m) cF → ∀ wz, Below w.heap.size w wz → Line wz 24 (.slice aF (fldsOf R.L m) cF) (fldsOf R.L m) (fun i => w64 ((R.X.getD m []).getD i 0))) := hide (fun m hm aF cF e wz k => by
    have := ((unhide HR wz k).1.fld m hm).1
    rw [e] at this
    exact this)
  have HXS := hide h.xs
  have HGO := hide h.go
  clear h
  go_enter Try.func41, Try.ntmps41
  go_wp2_with fail
  go_loopw [3, 4] (fun l i wq => ∃ m : Nat, m ≤ R.L.length ∧ i = .int .i64 m ∧ Imaged R w wq l m) (fun _ i _ => R.L.length - (intOf i).toNat)
  case atStart => exact ⟨0, by omega, rfl, (Below.refl _ _).alloc (Nat.le_refl _) _, World.ownsRow_lit w #[.int .u64 0] 1 (Nat.le_refl _) (by simp [maxLen]) rfl⟩
  case round =>
    obtain ⟨m, hm, rfl, hI⟩ := hrel
    rename World => wq
    by_cases hlt : m < R.L.length
    · have d1 : decide ((m : Int) < (R.L.length : Int)) = true := decide_eq_true (by omega)
      have d1' : decide (m < R.L.length) = true := decide_eq_true hlt
      obtain ⟨g, cap, aF, cF, c2, eF, o0, o1, o2, o3, o4, o5, _⟩ := (unhide HR wq hI.below).1.six m hlt wq (Still.refl _)
      have HL := hide (unhide HFL m hlt aF cF eF)
      have HC := hide (unhide HHD m hlt)
      have hpl := unhide HPL m hlt
      have hfl := unhide HP m hlt
      have hxs := unhide HXS m hlt
      have y0 : (0 : Int) ≤ (m : Int) := by omega
      have y1 : (m : Int) < (R.L.length : Int) := by omega
      have HI := hide hI
      have hbs := hI.below.size
      obtain ⟨al, cl, hvl⟩ := (line_of_own hI.own).1.shape
      have HNX : Hid (∀ v w', w'.ownsRow w.heap.size 24 1 v (place R.L (m + 1)) ((rimg R m).map w64 ++ [w64 (rword R m)] ++ (List.range (fldsOf R.L m)).map (fun i => w64 ((R.X.getD m []).getD i 0))) → Below w.heap.size w w' → Imaged R w w' v (m + 1)) := hide (fun v w' q1 q2 => ⟨q2, by
        have e : (rimg R (m + 1)).map w64 = (rimg R m).map w64 ++ [w64 (rword R m)] ++ (List.range (fldsOf R.L m)).map (fun i => w64 ((R.X.getD m []).getD i 0)) := by
          rw [rimg_succ, List.map_append, List.map_append]
          congr 1
          rw [← hxs, map_range]
        rw [e]
        exact q1⟩)
      subst hvl
      have HBI := hide hI.below
      have HOA : Hid (∀ y1 y2, ((wq.alloc y1).alloc y2).ownsRow w.heap.size 24 1 (.slice al (place R.L m) cl) (place R.L m) ((rimg R m).map w64) ∧ Below w.heap.size w ((wq.alloc y1).alloc y2)) := hide (fun y1 y2 => ⟨own_same hI.own (fun g hg => by
        have := own_lt hI.own g hg
        exact (heap_alloc_old _ y2 (by simp; omega)).trans (heap_alloc_old wq y1 this)), (hI.below.alloc hbs y1).alloc (by simp; omega) y2⟩)
      have HLB : Hid (∀ q, (Value.slice al (place R.L m) cl).ownBlock = some q → w.heap.size ≤ q ∧ q < wq.heap.size) := hide (fun q hq => ⟨hI.block q hq, own_lt hI.own q hq⟩)
      clear hI eF
      cases hg : R.Gn.getD m none with
      | none =>
        rw [hg] at o4 o5
        have o4' : wq.cell? ⟨g, m * 6 + 4, none⟩ = some (.bool false) := o4
        have o5' : wq.cell? ⟨g, m * 6 + 5, none⟩ = some (.int .i64 0) := o5
        have hrw : rword R m = (R.L.getD m (0, 0, 0)).1 + 256 * (R.L.getD m (0, 0, 0)).2.1 + 4294967296 * (R.L.getD m (0, 0, 0)).2.2 := by unfold rword; rw [hg]
        rw [← hrw] at HC
        clear o4 o5 hg hrw
        obtain ⟨f1, f2, f3⟩ := hfl
        obtain ⟨p1, p2⟩ := hpl
        generalize rword R m = hw at *
        generalize (R.L.getD m (0, 0, 0)).1 = kd at *
        generalize (R.L.getD m (0, 0, 0)).2.1 = rf at *
        generalize (R.L.getD m (0, 0, 0)).2.2 = rw' at *
        generalize fldsOf R.L m = nf at *
        generalize place R.L (m + 1) = pn at *
        generalize place R.L m = pj at *
        clear f3
        go_wp2_with fail
        refine (unhide HC _).mono ?_
        rintro e w1 ⟨rfl, hw1⟩
        subst hw1
        go_wp2_with (at_builtin; refine append_own_line rfl _ _ 62 rfl w.heap.size 24 i0 (.int .u64 0) 8 Try.underlying62 hi hx0 hx1 hx2 rfl (.slice al pj cl) pj ((rimg R m).map w64) rfl (unhide HOA _ _).1 (.slice (some ⟨wq.heap.size + 1, 0, none⟩) 1 1) rfl 1 (fun _ => w64 hw) ?p2 ?p3 (unhide HOA _ _).2.size ?p5 ?p6 ?_)
        case p2 =>
          refine .inr ⟨_, _, rfl, fun j hj => ?_⟩
          have : j = 0 := by omega
          subst this
          rw [add_at]
          exact World.cell?_alloc_at _ _ _ _ (by simp)
        case p3 => exact fun _ => rfl
        case p5 => omega
        case p6 => omega
        intro v1 w1 q1 q2
        obtain ⟨a1, c1, rfl⟩ := (line_of_own q1).1.shape
        have hB1 := (unhide HOA (.cells #[.int .i64 (pj : Nat), .int .i64 (kd : Nat), .int .i64 (rf : Nat), .slice aF nf cF, .bool false, .int .i64 0] 112) (.cells #[.int .u64 (hw : Nat)] 24)).2
        have hB2 : Below w.heap.size w w1 := hB1.grown q2 (by simp; omega) (fun k hk => (unhide HLB k hk).1)
        have z3 : w1.cell? ⟨wq.heap.size, 3, none⟩ = some (.slice aF nf cF) := by
          have e1 := q2.block wq.heap.size (by simp; omega) (fun e => by have := (unhide HLB _ e.symm).2; omega)
          rw [World.cell?_of_block (a := ⟨wq.heap.size, 3, none⟩) e1]
          rw [World.cell?_alloc_past _ _ _ (by simp), World.cell?_alloc_at _ _ _ _ rfl]
          rfl
        have HN := hide (unhide HL w1 hB2)
        have HB2 := hide hB2
        have HQ1 := hide q1
        have hs1 := hB2.size
        clear q1 q2 hB1 hB2 HOA
        go_wp2_with (at_builtin; refine append_own_line rfl _ _ 62 rfl w.heap.size 24 i0 (.int .u64 0) 8 Try.underlying62 hi hx0 hx1 hx2 rfl (.slice a1 (pj + 1) c1) (pj + 1) ((rimg R m).map w64 ++ (List.range 1).map (fun _ => w64 hw)) rfl (unhide HQ1) (.slice aF nf cF) rfl nf (fun i => w64 ((R.X.getD m []).getD i 0)) (unhide HN).news2 ?p3 hs1 ?p5 ?p6 ?_)
        case p3 => exact fun _ => rfl
        case p5 => omega
        case p6 => omega
        intro v2 w2 q3 q4
        have hB3 : Below w.heap.size w w2 := (unhide HB2).grown q4 hs1 (fun k hk => (line_of_own (unhide HQ1)).2 k hk)
        obtain ⟨a2, c2', rfl⟩ := (line_of_own q3).1.shape
        have HE := hide (unhide HNX _ w2 (by simpa using q3) hB3)
        clear q3 q4 hB3 HB2 HQ1 HN z3
        go_wp2
        refine ⟨⟨m + 1, by omega, by go_num, unhide HE⟩, by simp [intOf]; omega⟩
      | some t =>
        rw [hg] at o4 o5
        have o4' : wq.cell? ⟨g, m * 6 + 4, none⟩ = some (.bool true) := o4
        have o5' : wq.cell? ⟨g, m * 6 + 5, none⟩ = some (.int .i64 (t : Nat)) := o5
        have hrw : rword R m = 9223372036854775808 + t := by unfold rword; rw [hg]
        have hgo := unhide HGO m t hg
        have HRW := hide hrw
        obtain ⟨hw0, hhw0⟩ : ∃ hw0, hw0 = (R.L.getD m (0, 0, 0)).1 + 256 * (R.L.getD m (0, 0, 0)).2.1 + 4294967296 * (R.L.getD m (0, 0, 0)).2.2 := ⟨_, rfl⟩
        rw [← hhw0] at HC
        have ew : (9223372036854775808 : Int) + (t : Int) = ((rword R m : Nat) : Int) := by rw [hrw]; omega
        have ewt : ((rword R m : Nat) : Int) ≤ 9223372036855824384 := by omega
        clear o4 o5 hg hrw hhw0 HRW
        obtain ⟨f1, f2, f3⟩ := hfl
        obtain ⟨p1, p2⟩ := hpl
        generalize rword R m = hw at *
        generalize (R.L.getD m (0, 0, 0)).1 = kd at *
        generalize (R.L.getD m (0, 0, 0)).2.1 = rf at *
        generalize (R.L.getD m (0, 0, 0)).2.2 = rw' at *
        generalize fldsOf R.L m = nf at *
        generalize place R.L (m + 1) = pn at *
        generalize place R.L m = pj at *
        clear f3
        go_wp2_with fail
        refine (unhide HC _).mono ?_
        rintro e w1 ⟨rfl, hw1⟩
        subst hw1
        go_wp2_with (at_builtin; refine append_own_line rfl _ _ 62 rfl w.heap.size 24 i0 (.int .u64 0) 8 Try.underlying62 hi hx0 hx1 hx2 rfl (.slice al pj cl) pj ((rimg R m).map w64) rfl (unhide HOA _ _).1 (.slice (some ⟨wq.heap.size + 1, 0, none⟩) 1 1) rfl 1 (fun _ => w64 hw) ?p2 ?p3 (unhide HOA _ _).2.size ?p5 ?p6 ?_)
        case p2 =>
          refine .inr ⟨_, _, rfl, fun j hj => ?_⟩
          have : j = 0 := by omega
          subst this
          rw [add_at]
          exact World.cell?_alloc_at _ _ _ _ (by simp)
        case p3 => exact fun _ => rfl
        case p5 => omega
        case p6 => omega
        intro v1 w1 q1 q2
        obtain ⟨a1, c1, rfl⟩ := (line_of_own q1).1.shape
        have hB1 := (unhide HOA (.cells #[.int .i64 (pj : Nat), .int .i64 (kd : Nat), .int .i64 (rf : Nat), .slice aF nf cF, .bool true, .int .i64 (t : Nat)] 112) (.cells #[.int .u64 (hw : Nat)] 24)).2
        have hB2 : Below w.heap.size w w1 := hB1.grown q2 (by simp; omega) (fun k hk => (unhide HLB k hk).1)
        have z3 : w1.cell? ⟨wq.heap.size, 3, none⟩ = some (.slice aF nf cF) := by
          have e1 := q2.block wq.heap.size (by simp; omega) (fun e => by have := (unhide HLB _ e.symm).2; omega)
          rw [World.cell?_of_block (a := ⟨wq.heap.size, 3, none⟩) e1]
          rw [World.cell?_alloc_past _ _ _ (by simp), World.cell?_alloc_at _ _ _ _ rfl]
          rfl
        have HN := hide (unhide HL w1 hB2)
        have HB2 := hide hB2
        have HQ1 := hide q1
        have hs1 := hB2.size
        clear q1 q2 hB1 hB2 HOA
        go_wp2_with (at_builtin; refine append_own_line rfl _ _ 62 rfl w.heap.size 24 i0 (.int .u64 0) 8 Try.underlying62 hi hx0 hx1 hx2 rfl (.slice a1 (pj + 1) c1) (pj + 1) ((rimg R m).map w64 ++ (List.range 1).map (fun _ => w64 hw)) rfl (unhide HQ1) (.slice aF nf cF) rfl nf (fun i => w64 ((R.X.getD m []).getD i 0)) (unhide HN).news2 ?p3 hs1 ?p5 ?p6 ?_)
        case p3 => exact fun _ => rfl
        case p5 => omega
        case p6 => omega
        intro v2 w2 q3 q4
        have hB3 : Below w.heap.size w w2 := (unhide HB2).grown q4 hs1 (fun k hk => (line_of_own (unhide HQ1)).2 k hk)
        obtain ⟨a2, c2', rfl⟩ := (line_of_own q3).1.shape
        have HE := hide (unhide HNX _ w2 (by simpa using q3) hB3)
        clear q3 q4 hB3 HB2 HQ1 HN z3
        go_wp2
        refine ⟨⟨m + 1, by omega, by go_num, unhide HE⟩, by simp [intOf]; omega⟩
    · have d1 : decide ((m : Int) < (R.L.length : Int)) = false := decide_eq_false (by omega)
      have d1' : decide (m < R.L.length) = false := decide_eq_false hlt
      have e : m = R.L.length := by omega
      have hc2 := (unhide HR wq hI.below).2
      have HI : Hid (Imaged R w wq _ R.L.length) := hide (e ▸ hI)
      clear hI e
      go_wp2
      go_ret
      exact ⟨⟨_, rfl, unhide HEND wq _ (unhide HI)⟩, (unhide HI).below⟩
end Go.Proofs.Ytdgdnpgjbphgaab
