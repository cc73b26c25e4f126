/- HeapBound: the law. -/
import Derived.Test.YtidfllgaeiopjaaGreatSet
import Derived.Test.YtidfllgaeiopjaaGreatShI
import Derived.Deep.DeepCutAuto
import Derived.Deep.RegionHeld3
namespace Go.Proofs.YtidfllgaeiopjaaGreat
open Go.ChangeShapes Go.WideShapes Go.ChangeAt Go.RowKit
set_option linter.unusedVariables false
set_option linter.unusedSimpArgs false
set_option maxRecDepth 100000
set_option maxHeartbeats 1000000

def cnt0 (l : List Nat) : Nat := (l.filter fun i => i != 0).length
theorem take_more {l : List Nat} (i : Nat) (h : i < l.length) : l.take (i + 1) = l.take i ++ [l.getD i 0] := by
  rw [List.take_succ_eq_append_getElem h, List.getD_eq_getElem?_getD, List.getElem?_eq_getElem h]; rfl
theorem lg_app (M : Hp) (l : List Nat) (x : Nat) : lgOf M (l ++ [x]) = lgOf M l + if x = 0 then 0 else 1 + osz (ob M x) := by
  unfold lgOf; simp
theorem cnt_app (l : List Nat) (x : Nat) : cnt0 (l ++ [x]) = cnt0 l + if x = 0 then 0 else 1 := by
  unfold cnt0
  by_cases h : x = 0
  · simp [h]
  · simp [h]
/-- one slot more -/
theorem slot_step (M : Hp) (i : Nat) : lgOf M (M.slots.take (i + 1)) = lgOf M (M.slots.take i) + (if M.slots.getD i 0 = 0 then 0 else 1 + osz (ob M (M.slots.getD i 0))) ∧ cnt0 (M.slots.take (i + 1)) = cnt0 (M.slots.take i) + if M.slots.getD i 0 = 0 then 0 else 1 := by
  by_cases h : i < M.slots.length
  · rw [take_more i h]
    exact ⟨lg_app M _ _, cnt_app _ _⟩
  · have e : M.slots.getD i 0 = 0 := by rw [List.getD_eq_getElem?_getD, List.getElem?_eq_none (by omega)]; rfl
    rw [e, if_pos rfl, if_pos rfl, List.take_of_length_le (by omega), List.take_of_length_le (by omega)]
    exact ⟨rfl, rfl⟩
theorem lg_take (M : Hp) (l : List Nat) (i : Nat) : lgOf M (l.take i) ≤ lgOf M l := by
  conv => rhs; rw [← List.take_append_drop i l]
  unfold lgOf
  rw [List.map_append, List.sum_append]
  omega
theorem cnt_take (l : List Nat) (i : Nat) : cnt0 (l.take i) ≤ l.length := by
  unfold cnt0
  have h1 := List.length_filter_le (fun i => i != 0) (l.take i)
  rw [List.length_take] at h1
  omega
theorem Inv.nodes {ps ph lim n : Nat} {k : Kp} {M : Hp} {w : World} (h : Inv ps ph lim n k M w) : (∃ a c, w.cell? ⟨ps, 1, none⟩ = some (.slice a M.objs.length c)) ∧ w.cell? ⟨ps, 3, none⟩ = some (.int .i64 (lim : Nat)) ∧ M.slots.length ≤ M.objs.length ∧ M.objs.length ≤ n + 1 := by
  obtain ⟨tag, st, H, ns, C, last, b, bd⟩ := h
  obtain ⟨a, c, e⟩ := b.sh.nd.shape
  have c1 := b.sh.c1
  rw [e, b.gr.ln] at c1
  exact ⟨⟨a, c, c1⟩, b.sh.c3, bd.so, bd.ob⟩
theorem Inv.object {ps ph lim n : Nat} {k : Kp} {M : Hp} {w : World} (h : Inv ps ph lim n k M w) (x : Nat) (hx : x < 18446744073709551616) :
    Calls Tryz.prog 45 #[.pointer (some ⟨ph, 0, none⟩), .int .u64 (x : Nat)] w fun e w' => e = .returned (.tuple #[.int .i64 ((objM M x).1 : Nat), .int .i64 ((objM M x).2.1 : Nat), .int .i64 ((objM M x).2.2.1 : Nat), .int .i64 ((objM M x).2.2.2 : Nat)]) ∧ Below w.heap.size w w' := by
  obtain ⟨tag, st, H, ns, C, last, b, bd⟩ := h
  exact hobject_any b.he x hx
theorem num_slot (M : Hp) (i : Nat) : numOf M (9223372036854775808 + i) = M.slots.getD i 0 := by
  unfold numOf
  have : (9223372036854775808 : Nat) = topW := rfl
  rw [if_neg (by omega), this, Nat.add_sub_cancel_left]
theorem blocks_any {ps ph lim n : Nat} {k : Kp} {M : Hp} {w : World} (h : Inv ps ph lim n k M w) (hn : n ≤ 10000) :
    Calls Tryz.prog 46 #[.pointer (some ⟨ps, 0, none⟩), statV M] w fun e w' => e = .returned (.bool true) ∧ Below w.heap.size w w' := by
  obtain ⟨⟨a, c, c1⟩, c3, hso, hob⟩ := h.nodes
  obtain ⟨wf, hlim, hrz, hcl⟩ := h.wf
  have hlg : M.large ≤ 1048576 := by have := wf.lm; have := wf.l2; omega
  have hlgs : lgOf M M.slots = M.large := wf.lg.symm
  have hcnt : cnt0 M.slots = cntS M := rfl
  obtain ⟨N, hN⟩ : ∃ N, M.objs.length = N := ⟨_, rfl⟩
  rw [hN] at c1 hso hob
  obtain ⟨X, hX⟩ : ∃ X : Obj, X = .cells #[.int .i64 (M.limit : Nat), .int .i64 (M.half : Nat), .int .i64 (M.used : Nat), .int .i64 (M.large : Nat), .int .i64 (cntS M : Nat), .int .i64 (cntR M : Nat), .int .i64 (M.coll : Nat), .int .i64 (M.resz : Nat), .int .i64 (M.moved : Nat)] 47 := ⟨_, rfl⟩
  have hb0 : Below w.heap.size w (w.alloc X) := (Below.refl _ _).alloc (Nat.le_refl _) _
  have hz0 : (w.alloc X).heap.size = w.heap.size + 1 := by simp
  have t3 : (w.alloc X).cell? ⟨w.heap.size, 3, none⟩ = some (.int .i64 (M.large : Nat)) := by rw [hX]; exact World.cell?_alloc_at _ _ _ _ rfl
  have t4 : (w.alloc X).cell? ⟨w.heap.size, 4, none⟩ = some (.int .i64 (cntS M : Nat)) := by rw [hX]; exact World.cell?_alloc_at _ _ _ _ rfl
  have HC : Hid (∀ W, Below (w.heap.size + 1) (w.alloc X) W → W.cell? ⟨ps, 0, none⟩ = some (.pointer (some ⟨ph, 0, none⟩)) ∧ W.cell? ⟨ps, 1, none⟩ = some (.slice a N c) ∧ W.cell? ⟨w.heap.size, 3, none⟩ = some (.int .i64 (M.large : Nat)) ∧ W.cell? ⟨w.heap.size, 4, none⟩ = some (.int .i64 (cntS M : Nat)) ∧ Below w.heap.size w W) := hide (fun W q => by
    have hb := hb0.trans (q.mono (by omega))
    have hp := block_lt_of_cell c1
    exact ⟨(hb.cell (p := ⟨ps, 0, none⟩) hp).trans h.c0, (hb.cell (p := ⟨ps, 1, none⟩) hp).trans c1, (q.cell (p := ⟨w.heap.size, 3, none⟩) (Nat.lt_succ_self _)).trans t3, (q.cell (p := ⟨w.heap.size, 4, none⟩) (Nat.lt_succ_self _)).trans t4, hb⟩)
  have HO : Hid (∀ W i, i ≤ N → Below (w.heap.size + 1) (w.alloc X) W → Calls Tryz.prog 45 #[.pointer (some ⟨ph, 0, none⟩), .int .u64 (9223372036854775808 + (i : Nat))] W fun e w' => e = .returned (.tuple #[.int .i64 ((objM M (9223372036854775808 + i)).1 : Nat), .int .i64 ((objM M (9223372036854775808 + i)).2.1 : Nat), .int .i64 ((objM M (9223372036854775808 + i)).2.2.1 : Nat), .int .i64 ((objM M (9223372036854775808 + i)).2.2.2 : Nat)]) ∧ Hid (Below (w.heap.size + 1) (w.alloc X) w')) := hide (fun W i hi q => by
    have hb := hb0.trans (q.mono (by omega))
    have := (h.still hb).object (9223372036854775808 + i) (by omega)
    refine this.mono fun e w' ⟨q1, q2⟩ => ⟨q1, hide (q.trans (q2.mono (by have := q.size; omega)))⟩)
  have HI0 : Hid (Below (w.heap.size + 1) (w.alloc X) (w.alloc X)) := hide (Below.refl _ _)
  have HW := hide wf
  have HS := hide hlgs
  have HT := hide hcnt
  have hsl : M.slots.length ≤ 100000 := by omega
  clear hb0 hz0 t3 t4 c1 c3 h wf hlgs hcnt hlim hN
  unfold statV stV
  subst hX
  go_enter Tryz.func46, Tryz.ntmps46
  go_wp2_with fail
  generalize hW0 : World.alloc w _ = W0 at *
  clear hW0
  go_loopw [5, 6, 7] (fun wv nv iv wr => ∃ i : Nat, wv = .int .i64 (lgOf M (M.slots.take i) : Nat) ∧ nv = .int .i64 (cnt0 (M.slots.take i) : Nat) ∧ iv = .int .i64 (i : Nat) ∧ i ≤ N + 1 ∧ Hid (Below (w.heap.size + 1) W0 wr)) (fun _ _ iv _ => N + 1 - (intOf iv).toNat)
  case atStart => exact ⟨0, by simp [lgOf], by simp [cnt0], rfl, by omega, HI0⟩
  case round =>
    obtain ⟨i, rfl, rfl, rfl, hi, hI⟩ := hrel
    obtain ⟨x0, x1, t3, t4, hbw⟩ := unhide HC _ (unhide hI)
    have hl1 := lg_take M M.slots i
    have hl2 := cnt_take M.slots i
    rw [unhide HS] at hl1
    have w1 : IntKind.i64.wrap ((i : Int) + 1) = (i : Int) + 1 := wrap_small _ (by omega) (by omega)
    obtain ⟨sw, hsw⟩ : ∃ sw, lgOf M (M.slots.take i) = sw := ⟨_, rfl⟩
    obtain ⟨sc, hsc⟩ : ∃ sc, cnt0 (M.slots.take i) = sc := ⟨_, rfl⟩
    rw [hsw] at hl1 ⊢
    rw [hsc] at hl2 ⊢
    by_cases hin : i ≤ N
    · obtain ⟨s1, s2⟩ := slot_step M i
      rw [hsw] at s1
      rw [hsc] at s2
      have hl3 := lg_take M M.slots (i + 1)
      rw [unhide HS] at hl3
      have wu : IntKind.u64.wrap (i : Int) = (i : Int) := by rw [IntKind.wrap_u64]; omega
      have wv : IntKind.u64.wrap (9223372036854775808 + (i : Int)) = 9223372036854775808 + (i : Int) := by rw [IntKind.wrap_u64]; omega
      have dle : decide ((i : Int) ≤ (N : Nat)) = true := decide_eq_true (by omega)
      have HOi := hide (unhide HO wr i hin (unhide hI))
      have hobj : objM M (9223372036854775808 + i) = if M.slots.getD i 0 = 0 then (0, 0, 0, 32) else ((ob M (M.slots.getD i 0)).kind, (ob M (M.slots.getD i 0)).refs.length, (ob M (M.slots.getD i 0)).raws.length, 0) := by unfold objM; rw [num_slot]
      by_cases hs0 : M.slots.getD i 0 = 0
      · rw [if_pos hs0] at hobj s1 s2
        rw [hobj] at HOi
        have HNX : Hid (lgOf M (M.slots.take (i + 1)) = sw ∧ cnt0 (M.slots.take (i + 1)) = sc) := hide ⟨s1, s2⟩
        clear s1 s2 hl3 hobj hs0 hsw hsc hI
        go_wp2_with fail
        refine (unhide HOi).mono ?_
        rintro e w2 ⟨rfl, hI2⟩
        go_wp2_with fail
        all_goals go_roundw
        all_goals first | exact ⟨i + 1, by rw [(unhide HNX).1], by rw [(unhide HNX).2], by simp, by omega, hI2⟩ | (simp [intOf]; omega)
      · rw [if_neg hs0] at hobj s1 s2
        rw [hobj] at HOi
        have hmem : M.slots.getD i 0 ∈ M.slots := (slot_mem (M := M) (s := i) hs0).2
        have hbig := (unhide HW).sb _ hs0 hmem
        obtain ⟨kd, hkd⟩ : ∃ kd, (ob M (M.slots.getD i 0)).kind = kd := ⟨_, rfl⟩
        obtain ⟨rf, hrf⟩ : ∃ rf, (ob M (M.slots.getD i 0)).refs.length = rf := ⟨_, rfl⟩
        obtain ⟨rw', hrw⟩ : ∃ rw', (ob M (M.slots.getD i 0)).raws.length = rw' := ⟨_, rfl⟩
        have hos : osz (ob M (M.slots.getD i 0)) = 1 + rf + rw' := by unfold osz; rw [hrf, hrw]
        rw [hos] at s1 hbig
        rw [hkd, hrf, hrw] at HOi
        have HNX : Hid (lgOf M (M.slots.take (i + 1)) = sw + 2 + rf + rw' ∧ cnt0 (M.slots.take (i + 1)) = sc + 1) := hide ⟨by omega, s2⟩
        have a1 : IntKind.i64.wrap (1 + (rf : Int)) = 1 + (rf : Int) := wrap_small _ (by omega) (by omega)
        have a2 : IntKind.i64.wrap (1 + (rf : Int) + (rw' : Int)) = 1 + (rf : Int) + (rw' : Int) := wrap_small _ (by omega) (by omega)
        have a3 : IntKind.i64.wrap ((sw : Int) + 2) = (sw : Int) + 2 := wrap_small _ (by omega) (by omega)
        have a4 : IntKind.i64.wrap ((sw : Int) + 2 + (rf : Int)) = (sw : Int) + 2 + (rf : Int) := wrap_small _ (by omega) (by omega)
        have a5 : IntKind.i64.wrap ((sw : Int) + 2 + (rf : Int) + (rw' : Int)) = (sw : Int) + 2 + (rf : Int) + (rw' : Int) := wrap_small _ (by omega) (by omega)
        have a6 : IntKind.i64.wrap ((sc : Int) + 1) = (sc : Int) + 1 := wrap_small _ (by omega) (by omega)
        have d1 : decide ((rf : Int) < 0) = false := decide_eq_false (by omega)
        have d2 : decide ((rw' : Int) < 0) = false := decide_eq_false (by omega)
        have d3 : decide (1 + (rf : Int) + (rw' : Int) ≤ 64) = false := decide_eq_false (by omega)
        clear s1 s2 hl3 hobj hmem hkd hrf hrw hos hs0 hsw hsc hI
        go_wp2_with fail
        refine (unhide HOi).mono ?_
        rintro e w2 ⟨rfl, hI2⟩
        go_wp2_with fail
        all_goals go_roundw
        all_goals first | exact ⟨i + 1, by rw [(unhide HNX).1]; simp, by rw [(unhide HNX).2]; simp, by simp, by omega, hI2⟩ | (simp [intOf]; omega)
    · have hiN : i = N + 1 := by omega
      have e1 : M.slots.take i = M.slots := List.take_of_length_le (by omega)
      rw [e1, unhide HS] at hsw
      rw [e1, unhide HT] at hsc
      subst hsw hsc
      have dle : decide ((i : Int) ≤ (N : Nat)) = false := decide_eq_false (by omega)
      have HBW := hide hbw
      clear hbw
      go_wp2_with fail
      (try go_region)
      all_goals go_wp2_with fail
      all_goals go_ret
      all_goals exact ⟨by simp, by first | exact unhide HBW | exact (unhide HBW).drew⟩
end Go.Proofs.YtidfllgaeiopjaaGreat
namespace Go.Proofs.YtidfllgaeiopjaaGreat
open Go.ChangeShapes Go.WideShapes Go.ChangeAt Go.RowKit
set_option linter.unusedVariables false
set_option linter.unusedSimpArgs false
set_option maxRecDepth 100000
set_option maxHeartbeats 2000000

/-- the image's words: 0, then of each object its header and its fields -/
structure ImgP (M : Hp) : Prop where
  z : 0 < M.used ∧ (imgM M).getD 0 0 = 0
  h : ∀ j, j < M.small.length → (imgM M).getD (place (shapes M M.small) j) 0 = (ob M (M.small.getD j 0)).kind + 256 * (ob M (M.small.getD j 0)).refs.length + 4294967296 * (ob M (M.small.getD j 0)).raws.length
  f : ∀ j k, j < M.small.length → k < (fldM M (M.small.getD j 0)).length → (imgM M).getD (place (shapes M M.small) j + 1 + k) 0 = (fldM M (M.small.getD j 0)).getD k 0
theorem Inv.img {ps ph lim n : Nat} {k : Kp} {M : Hp} {w : World} (h : Inv ps ph lim n k M w) : ImgP M := by
  obtain ⟨tag, st, H, ns, C, last, b, bd⟩ := h
  have hA := b.he.raw.hA
  rw [b.he.A] at hA
  obtain ⟨ws, hs, us, hA, r, o⟩ := hA
  have hl : (midA M []).L.length = M.small.length := shapes_length M M.small
  obtain ⟨i1, i2⟩ := r.image o M.small.length (by rw [hl]; exact Nat.le_refl _)
  have hp : place (midA M []).L M.small.length = M.used := by rw [← hl]; exact midA_used M b.he.wf.ok []
  have hsh : ∀ j, j < M.small.length → (midA M []).L.getD j (0, 0, 0) = shp (ob M (M.small.getD j 0)) := fun j hj => shapes_at M M.small j hj
  have hx : ∀ j, j < M.small.length → (midA M []).X.getD j [] = fldM M (M.small.getD j 0) := fun j hj => by
    show (M.small.map (fun i => mix M [] 0 i)).getD j [] = _
    rw [List.getD_eq_getElem?_getD, List.getElem?_map, List.getD_eq_getElem?_getD, List.getElem?_eq_getElem hj]
    exact mix_zero M [] _
  have hfl : ∀ j, j < M.small.length → fldsOf (midA M []).L j = (fldM M (M.small.getD j 0)).length := fun j hj => by
    have := o.xs j (by rw [hl]; exact hj)
    rw [hx j hj] at this
    exact this.symm
  have hlt : ∀ j, j < M.small.length → place (midA M []).L j + 1 + (fldM M (M.small.getD j 0)).length ≤ M.used := fun j hj => by
    have := used_of (midA M []) j (by rw [hl]; exact hj)
    rw [hfl j hj, midA_used M b.he.wf.ok []] at this
    exact this
  rw [hp] at i2
  have hu1 : 0 < M.used := by rw [← hp]; exact place_pos _ _
  refine ⟨⟨hu1, ?_⟩, fun j hj => ?_, fun j q hj hq => ?_⟩
  · show (rimg (midA M []) M.small.length).getD 0 0 = 0
    rw [← i2 0 hu1]; exact r.zero
  · have h1 := hlt j hj
    show (rimg (midA M []) M.small.length).getD (place (midA M []).L j) 0 = _
    rw [← i2 _ (by omega), r.heads j (by rw [hl]; exact hj)]
    unfold rword
    have hg : (midA M []).Gn.getD j none = none := by
      show (M.small.map (fun i => if i ∈ ([] : List Nat) then some (addr M [] i) else none)).getD j none = none
      rw [List.getD_eq_getElem?_getD, List.getElem?_map, List.getElem?_eq_getElem hj]
      simp
    rw [hg, hsh j hj]
    rfl
  · have h1 := hlt j hj
    show (rimg (midA M []) M.small.length).getD (place (midA M []).L j + 1 + q) 0 = _
    rw [← i2 _ (by omega), r.flds j q (by rw [hl]; exact hj) (by rw [hfl j hj]; exact hq), hx j hj]
theorem small_get {M : Hp} (ok : HpOk M) {j : Nat} (hj : j < M.small.length) : M.small.getD j 0 ∈ M.small ∧ M.small.getD j 0 ≠ 0 := by
  have : M.small.getD j 0 ∈ M.small := by rw [List.getD_eq_getElem?_getD, List.getElem?_eq_getElem hj]; exact List.getElem_mem hj
  exact ⟨this, (ok.s1 _ this).1⟩
theorem num_place {M : Hp} (ok : HpOk M) {j : Nat} (hj : j < M.small.length) : numOf M (place (shapes M M.small) j) = M.small.getD j 0 := by
  have hb : place (shapes M M.small) j ≤ M.used := by rw [ok.us]; exact place_le _ (by omega)
  have := ok.u2
  have := ok.h2
  unfold numOf
  rw [if_pos (by unfold topW; omega), findJ_yes (j := j) (by rw [shapes_length]; exact hj) rfl]
theorem num_inside {M : Hp} (ok : HpOk M) {j q : Nat} (hj : j < M.small.length) (hq : q < (ob M (M.small.getD j 0)).refs.length + (ob M (M.small.getD j 0)).raws.length) : numOf M (place (shapes M M.small) j + 1 + q) = 0 := by
  have hsh : (shapes M M.small).getD j (0, 0, 0) = shp (ob M (M.small.getD j 0)) := shapes_at M M.small j hj
  have hb : place (shapes M M.small) (j + 1) ≤ M.used := by rw [ok.us]; exact place_le _ (by omega)
  have hn : place (shapes M M.small) (j + 1) = place (shapes M M.small) j + wd ((shapes M M.small).getD j (0, 0, 0)) := rfl
  rw [hsh] at hn
  have hw : wd (shp (ob M (M.small.getD j 0))) = 1 + (ob M (M.small.getD j 0)).refs.length + (ob M (M.small.getD j 0)).raws.length := rfl
  have := ok.u2
  have := ok.h2
  unfold numOf
  rw [if_pos (by unfold topW; omega), findJ_no]
  intro i hi e
  have e' : place (shapes M M.small) j + 1 + q = place (shapes M M.small) i := by omega
  rcases Nat.lt_trichotomy i j with h1 | h1 | h1
  · have := place_le (shapes M M.small) (i := i) (j := j) (by omega); omega
  · subst h1; omega
  · have := place_le (shapes M M.small) (i := j + 1) (j := i) (by omega); omega
theorem place_next {M : Hp} {j : Nat} (hj : j < M.small.length) : place (shapes M M.small) (j + 1) = place (shapes M M.small) j + 1 + (ob M (M.small.getD j 0)).refs.length + (ob M (M.small.getD j 0)).raws.length := by
  have hsh : (shapes M M.small).getD j (0, 0, 0) = shp (ob M (M.small.getD j 0)) := shapes_at M M.small j hj
  show place (shapes M M.small) j + wd ((shapes M M.small).getD j (0, 0, 0)) = _
  rw [hsh]
  show place (shapes M M.small) j + (1 + (ob M (M.small.getD j 0)).refs.length + (ob M (M.small.getD j 0)).raws.length) = _
  omega
theorem Inv.get {ps ph lim n : Nat} {k : Kp} {M : Hp} {w : World} (h : Inv ps ph lim n k M w) (x : Nat) (hx : x < 18446744073709551616) (i : Int) :
    Calls Tryz.prog 29 #[.pointer (some ⟨ph, 0, none⟩), .int .u64 (x : Nat), .int .i64 i] w fun e w' => e = .returned (.tuple #[.int .u64 ((getM M x i).1 : Nat), .int .i64 ((getM M x i).2 : Nat)]) ∧ Below w.heap.size w w' := by
  obtain ⟨tag, st, H, ns, C, last, b, bd⟩ := h
  exact hget_any b.he x hx i
theorem Inv.kind {ps ph lim n : Nat} {k : Kp} {M : Hp} {w : World} (h : Inv ps ph lim n k M w) {j : Nat} (hj : j < M.small.length) : (ob M (M.small.getD j 0)).kind ≤ 255 := by
  obtain ⟨tag, st, H, ns, C, last, b, bd⟩ := h
  have hA := b.he.raw.hA
  rw [b.he.A] at hA
  have o := hA.ok
  have := (o.sh j (by show j < (shapes M M.small).length; rw [shapes_length]; exact hj)).2
  have hsh : (midA M []).L.getD j (0, 0, 0) = shp (ob M (M.small.getD j 0)) := shapes_at M M.small j hj
  rw [hsh] at this
  exact this
end Go.Proofs.YtidfllgaeiopjaaGreat
namespace Go.Proofs.YtidfllgaeiopjaaGreat
open Go.ChangeShapes Go.WideShapes Go.ChangeAt Go.RowKit
set_option linter.unusedVariables false
set_option linter.unusedSimpArgs false
set_option maxRecDepth 100000
set_option maxHeartbeats 1000000

def Z9 : Obj := .cells #[.int .i64 0, .int .i64 0, .int .i64 0, .int .i64 0, .int .i64 0, .int .i64 0, .int .i64 0, .int .i64 0, .int .i64 0] 47
def sO (M : Hp) : Obj := .cells #[.int .i64 (M.limit : Nat), .int .i64 (M.half : Nat), .int .i64 (M.used : Nat), .int .i64 (M.large : Nat), .int .i64 (cntS M : Nat), .int .i64 (cntR M : Nat), .int .i64 (M.coll : Nat), .int .i64 (M.resz : Nat), .int .i64 (M.moved : Nat)] 47
def s9 (w : World) (g : Nat) (M : Hp) : World := ((((((((w.setCell ⟨g, 0, none⟩ (.int .i64 (M.limit : Nat))).setCell ⟨g, 1, none⟩ (.int .i64 (M.half : Nat))).setCell ⟨g, 2, none⟩ (.int .i64 (M.used : Nat))).setCell ⟨g, 3, none⟩ (.int .i64 (M.large : Nat))).setCell ⟨g, 4, none⟩ (.int .i64 (cntS M : Nat))).setCell ⟨g, 5, none⟩ (.int .i64 (cntR M : Nat))).setCell ⟨g, 6, none⟩ (.int .i64 (M.coll : Nat))).setCell ⟨g, 7, none⟩ (.int .i64 (M.resz : Nat))).setCell ⟨g, 8, none⟩ (.int .i64 (M.moved : Nat))
theorem sO_cells {w : World} {g : Nat} {M : Hp} (e : w.heap[g]? = some (sO M)) : w.cell? ⟨g, 0, none⟩ = some (.int .i64 (M.limit : Nat)) ∧ w.cell? ⟨g, 1, none⟩ = some (.int .i64 (M.half : Nat)) ∧ w.cell? ⟨g, 2, none⟩ = some (.int .i64 (M.used : Nat)) ∧ w.cell? ⟨g, 3, none⟩ = some (.int .i64 (M.large : Nat)) ∧ w.cell? ⟨g, 4, none⟩ = some (.int .i64 (cntS M : Nat)) ∧ w.cell? ⟨g, 5, none⟩ = some (.int .i64 (cntR M : Nat)) ∧ w.cell? ⟨g, 6, none⟩ = some (.int .i64 (M.coll : Nat)) ∧ w.cell? ⟨g, 7, none⟩ = some (.int .i64 (M.resz : Nat)) ∧ w.cell? ⟨g, 8, none⟩ = some (.int .i64 (M.moved : Nat)) := by
  unfold sO at e
  have h : ∀ o : Nat, w.cell? ⟨g, o, none⟩ = #[Value.int .i64 (M.limit : Nat), .int .i64 (M.half : Nat), .int .i64 (M.used : Nat), .int .i64 (M.large : Nat), .int .i64 (cntS M : Nat), .int .i64 (cntR M : Nat), .int .i64 (M.coll : Nat), .int .i64 (M.resz : Nat), .int .i64 (M.moved : Nat)][o]? := fun o => by simp only [World.cell?, e]; rfl
  exact ⟨h 0, h 1, h 2, h 3, h 4, h 5, h 6, h 7, h 8⟩
theorem s9_at {w : World} {g : Nat} (e : w.heap[g]? = some Z9) (M : Hp) : (s9 w g M).heap[g]? = some (sO M) ∧ (∀ k, k ≠ g → (s9 w g M).heap[k]? = w.heap[k]?) ∧ (s9 w g M).heap.size = w.heap.size ∧ (s9 w g M).os = w.os ∧ (s9 w g M).tape = w.tape ∧ (s9 w g M).output = w.output := by
  have q1 : ∀ (w : World) a v, (w.setCell a v).os = w.os := fun _ _ _ => rfl
  have q2 : ∀ (w : World) a v, (w.setCell a v).tape = w.tape := fun _ _ _ => rfl
  have q3 : ∀ (w : World) a v, (w.setCell a v).output = w.output := fun _ _ _ => rfl
  have q4 : ∀ (w : World) (o : Nat) (v : Value) (cs : Array Value), w.heap[g]? = some (.cells cs 47) → (w.setCell ⟨g, o, none⟩ v).heap[g]? = some (.cells (cs.setIfInBounds o v) 47) := fun w o v cs h => by simp [World.setCell, Array.getElem?_modify, h]
  unfold Z9 at e
  refine ⟨?_, fun k hk => ?_, ?_, ?_, ?_, ?_⟩
  · have r := q4 _ 8 (.int .i64 (M.moved : Nat)) _ (q4 _ 7 (.int .i64 (M.resz : Nat)) _ (q4 _ 6 (.int .i64 (M.coll : Nat)) _ (q4 _ 5 (.int .i64 (cntR M : Nat)) _ (q4 _ 4 (.int .i64 (cntS M : Nat)) _ (q4 _ 3 (.int .i64 (M.large : Nat)) _ (q4 _ 2 (.int .i64 (M.used : Nat)) _ (q4 _ 1 (.int .i64 (M.half : Nat)) _ (q4 w 0 (.int .i64 (M.limit : Nat)) _ e))))))))
    unfold s9 sO
    rw [r]
    simp only [List.setIfInBounds_toArray, List.set_cons_zero, List.set_cons_succ]
  · unfold s9
    rw [setCell_else _ _ _ _ _ hk, setCell_else _ _ _ _ _ hk, setCell_else _ _ _ _ _ hk, setCell_else _ _ _ _ _ hk, setCell_else _ _ _ _ _ hk, setCell_else _ _ _ _ _ hk, setCell_else _ _ _ _ _ hk, setCell_else _ _ _ _ _ hk, setCell_else _ _ _ _ _ hk]
  · unfold s9
    simp only [World.size_setCell]
  · unfold s9
    simp only [q1]
  · unfold s9
    simp only [q2]
  · unfold s9
    simp only [q3]
/-- where Image's answer lies, and Stats' -/
structure AT (M : Hp) (ga gt : Nat) (w X : World) : Prop where
  be : Below w.heap.size w X
  a1 : w.heap.size ≤ ga ∧ ga < X.heap.size
  t1 : w.heap.size ≤ gt ∧ gt < X.heap.size
  img : ∀ j, j < M.used → X.cell? ⟨ga, j, none⟩ = some (.int .u64 ((imgM M).getD j 0 : Nat))
  st : X.heap[gt]? = some (sO M)
def A15 (M : Hp) (W w' : World) : Prop := Below W.heap.size W w' ∧ W.heap.size < w'.heap.size ∧ ∀ j, j < M.used → w'.cell? ⟨W.heap.size, j, none⟩ = some (.int .u64 ((imgM M).getD j 0 : Nat))
theorem AT.one {M : Hp} {w w5 w6 : World} (h5 : A15 M w.drew w5) (h6 : Below w5.heap.size w5 w6) : AT M w.heap.size w6.heap.size w ((w6.alloc (sO M))) := by
  obtain ⟨b5, z5, c5⟩ := h5
  have b5' : Below w.heap.size w w5 := ((Below.refl _ _).drew).trans (b5.mono (Nat.le_refl _))
  have hz5 : w.heap.size < w5.heap.size := z5
  have hz6 := h6.size
  have b7 : Below w6.heap.size w6 (w6.alloc (sO M)) := (Below.refl _ _).alloc (Nat.le_refl _) _
  refine ⟨(b5'.trans (h6.mono (by omega))).trans (b7.mono (by omega)), ⟨Nat.le_refl _, by simp; omega⟩, ⟨by omega, by simp⟩, fun j hj => ?_, heap_alloc_new _ _⟩
  exact (b7.cell (p := ⟨w.heap.size, j, none⟩) (show w.heap.size < _ by omega)).trans ((h6.cell (p := ⟨w.heap.size, j, none⟩) hz5).trans (c5 j hj))
theorem AT.two {M : Hp} {w w5 w6 : World} (h5 : A15 M w.drew w5) (h6 : Below (w5.alloc Z9).heap.size (w5.alloc Z9) w6) : w6.heap[w5.heap.size]? = some Z9 ∧ AT M w.heap.size w5.heap.size w (s9 w6 w5.heap.size M) := by
  obtain ⟨b5, z5, c5⟩ := h5
  have b5' : Below w.heap.size w w5 := ((Below.refl _ _).drew).trans (b5.mono (Nat.le_refl _))
  have hz5 : w.heap.size < w5.heap.size := z5
  have ba : Below w5.heap.size w5 (w5.alloc Z9) := (Below.refl _ _).alloc (Nat.le_refl _) _
  have hsz : (w5.alloc Z9).heap.size = w5.heap.size + 1 := by simp
  have hz6 := h6.size
  have e6 : w6.heap[w5.heap.size]? = some Z9 := (h6.block w5.heap.size (by omega)).trans (heap_alloc_new _ _)
  obtain ⟨p1, p2, p3, p4, p5, p6⟩ := s9_at e6 M
  have b6 : Below w5.heap.size w5 w6 := ba.trans (h6.mono (by omega))
  refine ⟨e6, ⟨⟨p4.trans (b6.os.trans b5'.os), p5.trans (b6.tape.trans b5'.tape), p6.trans (b6.output.trans b5'.output), by omega, fun g hg => (p2 g (by omega)).trans ((b6.block g (by omega)).trans (b5'.block g hg))⟩, ⟨Nat.le_refl _, by omega⟩, ⟨by omega, by omega⟩, fun j hj => ?_, p1⟩⟩
  have e : (s9 w6 w5.heap.size M).heap[w.heap.size]? = w5.heap[w.heap.size]? := (p2 _ (by omega)).trans (b6.block _ hz5)
  rw [← c5 j hj]
  simp only [World.cell?]
  rw [e]
  rfl
theorem AT.three {M : Hp} {w w5 w6 : World} (h5 : A15 M (w.alloc Z9).drew w5) (h6 : Below w5.heap.size w5 w6) : w6.heap[w.heap.size]? = some Z9 ∧ AT M (w.heap.size + 1) w.heap.size w (s9 w6 w.heap.size M) := by
  obtain ⟨b5, z5, c5⟩ := h5
  have hsz : (w.alloc Z9).drew.heap.size = w.heap.size + 1 := by show (w.alloc Z9).heap.size = _; simp
  have ba : Below w.heap.size w (w.alloc Z9).drew := ((Below.refl _ _).alloc (Nat.le_refl _) _).drew
  rw [hsz] at b5 z5 c5
  have hz6 := h6.size
  have b6 : Below (w.heap.size + 1) (w.alloc Z9).drew w6 := b5.trans (h6.mono (by omega))
  have e6 : w6.heap[w.heap.size]? = some Z9 := (b6.block w.heap.size (by omega)).trans (heap_alloc_new _ _)
  obtain ⟨p1, p2, p3, p4, p5, p6⟩ := s9_at e6 M
  refine ⟨e6, ⟨⟨p4.trans (b6.os.trans ba.os), p5.trans (b6.tape.trans ba.tape), p6.trans (b6.output.trans ba.output), by omega, fun g hg => (p2 g (by omega)).trans ((b6.block g (by omega)).trans (ba.block g hg))⟩, ⟨by omega, by omega⟩, ⟨Nat.le_refl _, by omega⟩, fun j hj => ?_, p1⟩⟩
  have e : (s9 w6 w.heap.size M).heap[w.heap.size + 1]? = w5.heap[w.heap.size + 1]? := (p2 _ (by omega)).trans (h6.block _ (by omega))
  rw [← c5 j hj]
  simp only [World.cell?]
  rw [e]
end Go.Proofs.YtidfllgaeiopjaaGreat
namespace Go.Proofs.YtidfllgaeiopjaaGreat
open Go.ChangeShapes Go.WideShapes Go.ChangeAt Go.RowKit
set_option linter.unusedVariables false
set_option linter.unusedSimpArgs false
set_option maxRecDepth 100000
set_option maxHeartbeats 2000000
theorem bounded_any {ps ph lim n : Nat} {k : Kp} {M : Hp} {w : World} (h : Inv ps ph lim n k M w) (hn : n ≤ 10000) :
    Calls Tryz.prog 21 #[.pointer (some ⟨ps, 0, none⟩)] w fun e w' => e = .returned (.bool true) ∧ Below w.heap.size w w' := by
  obtain ⟨⟨a, c, c1⟩, c3, hso, hob⟩ := h.nodes
  obtain ⟨wf, hlim, hrz, hcl⟩ := h.wf
  have c0 := h.c0
  have HP := hide h.img
  have HW := hide wf
  have HC : Hid (∀ W, Hid (Below w.heap.size w W) → W.cell? ⟨ps, 0, none⟩ = some (.pointer (some ⟨ph, 0, none⟩)) ∧ W.cell? ⟨ps, 3, none⟩ = some (.int .i64 (lim : Nat))) := hide (fun W q => by
    have hp := block_lt_of_cell c1
    exact ⟨((unhide q).cell (p := ⟨ps, 0, none⟩) hp).trans h.c0, ((unhide q).cell (p := ⟨ps, 3, none⟩) hp).trans c3⟩)
  have H16 : Hid (∀ W, Hid (Below w.heap.size w W) → Calls Tryz.prog 16 #[.pointer (some ⟨ph, 0, none⟩)] W fun e w' => e = .returned (statV M) ∧ Hid (Below w.heap.size w w') ∧ Hid (Below W.heap.size W w')) := hide (fun W q => by
    have iv := h.still (unhide q)
    exact iv.stats.mono fun e w' ⟨q1, q4⟩ => ⟨q1, hide ((unhide q).trans (q4.mono (unhide q).size)), hide q4⟩)
  have H15 : Hid (∀ W, Hid (Below w.heap.size w W) → Calls Tryz.prog 15 #[.pointer (some ⟨ph, 0, none⟩)] W fun e w' => e = .returned (.slice (some ⟨W.heap.size, 0, none⟩) M.used M.used) ∧ Hid (W.heap.size < w'.heap.size ∧ (∀ j, j < M.used → w'.cell? ⟨W.heap.size, j, none⟩ = some (.int .u64 ((imgM M).getD j 0 : Nat)))) ∧ Hid (Below w.heap.size w w') ∧ Hid (Below W.heap.size W w')) := hide (fun W q => by
    have iv := h.still (unhide q)
    exact iv.image.mono fun e w' ⟨q1, q2, q3, q4⟩ => ⟨q1, hide ⟨q2, q3⟩, hide ((unhide q).trans (q4.mono (unhide q).size)), hide q4⟩)
  have H45 : Hid (∀ W x, x < 18446744073709551616 → Hid (Below w.heap.size w W) → Calls Tryz.prog 45 #[.pointer (some ⟨ph, 0, none⟩), .int .u64 (x : Nat)] W fun e w' => e = .returned (.tuple #[.int .i64 ((objM M x).1 : Nat), .int .i64 ((objM M x).2.1 : Nat), .int .i64 ((objM M x).2.2.1 : Nat), .int .i64 ((objM M x).2.2.2 : Nat)]) ∧ Hid (Below w.heap.size w w') ∧ Hid (Below W.heap.size W w')) := hide (fun W x hx q => by
    have iv := h.still (unhide q)
    exact (iv.object x hx).mono fun e w' ⟨q1, q4⟩ => ⟨q1, hide ((unhide q).trans (q4.mono (unhide q).size)), hide q4⟩)
  have H29 : Hid (∀ W x i, x < 18446744073709551616 → Hid (Below w.heap.size w W) → Calls Tryz.prog 29 #[.pointer (some ⟨ph, 0, none⟩), .int .u64 (x : Nat), .int .i64 i] W fun e w' => e = .returned (.tuple #[.int .u64 ((getM M x i).1 : Nat), .int .i64 ((getM M x i).2 : Nat)]) ∧ Hid (Below w.heap.size w w') ∧ Hid (Below W.heap.size W w')) := hide (fun W x i hx q => by
    have iv := h.still (unhide q)
    exact (iv.get x hx i).mono fun e w' ⟨q1, q4⟩ => ⟨q1, hide ((unhide q).trans (q4.mono (unhide q).size)), hide q4⟩)
  have H46 : Hid (∀ W, Hid (Below w.heap.size w W) → Calls Tryz.prog 46 #[.pointer (some ⟨ps, 0, none⟩), statV M] W fun e w' => e = .returned (.bool true) ∧ Hid (Below w.heap.size w w')) := hide (fun W q => by
    have iv := h.still (unhide q)
    exact (blocks_any iv hn).mono fun e w' ⟨q1, q4⟩ => ⟨q1, hide ((unhide q).trans (q4.mono (unhide q).size))⟩)
  have HI0 : Hid (Below w.heap.size w w) := hide (Below.refl _ _)
  have hK : Hid (∀ j, j < M.small.length → (ob M (M.small.getD j 0)).kind ≤ 255) := hide (fun j hj => h.kind hj)
  have HL := hide hlim
  clear hlim c1 c3 hso hob hrz hcl wf h
  unfold statV stV at H16 H46
  go_enter Tryz.func21, Tryz.ntmps21
  go_wp2_with fail
  refine (unhide H16 _ HI0).mono ?_
  rintro e w1 ⟨rfl, hI1, hJ1⟩
  have hIa : Hid (Below w.heap.size w (w1.alloc (sO M))) := hide ((unhide hI1).alloc (unhide hI1).size _)
  have hT : Hid ((w1.alloc (sO M)).heap[w1.heap.size]? = some (sO M)) := hide ((MapKept.heap_alloc w1 (sO M)).1)
  have hTs : Hid (w1.heap.size < (w1.alloc (sO M)).heap.size) := hide (by simp)
  obtain ⟨x0, x3⟩ := unhide HC _ hIa
  obtain ⟨gt, hgt⟩ : ∃ gt, w1.heap.size = gt := ⟨_, rfl⟩
  unfold sO at x0 x3 hIa hT hTs
  go_wp2_with fail
  rw [hgt] at hT hTs
  try rw [hgt]
  generalize hW1 : World.alloc w1 _ = W1 at *
  clear hW1 x0 x3 c0
  refine (unhide H15 _ hIa).mono ?_
  rintro e w2 ⟨rfl, hA, hI2, hJ2⟩
  obtain ⟨x0, x3⟩ := unhide HC _ hI2
  have hT2 : w2.heap[gt]? = some (sO M) := ((unhide hJ2).block gt (unhide hTs)).trans (unhide hT)
  obtain ⟨p0, p1, p2, p3, p4, p5, p6, p7, p8⟩ := sO_cells hT2
  have HT2 := hide hT2
  have z0 := (unhide hA).2 0 (unhide HP).z.1
  rw [(unhide HP).z.2] at z0
  have hlg : M.limit ≤ 1048576 := (unhide HW).l2
  have hlm := (unhide HW).lm
  have hh1 := (unhide HW).h1
  have hu2 := (unhide HW).ok.u2
  have hu0 := (unhide HP).z.1
  obtain ⟨ga, hga⟩ : ∃ ga, W1.heap.size = ga := ⟨_, rfl⟩
  rw [hga] at hA z0 ⊢
  clear hga hT2 hT hTs
  have d1 : decide ((M.used : Int) < 1) = false := decide_eq_false (by omega)
  have d2 : ((M.limit : Int) != (lim : Nat)) = false := by rw [unhide HL]; simp
  have a1 : IntKind.i64.wrap (2 * (M.half : Int)) = 2 * (M.half : Int) := wrap_small _ (by omega) (by omega)
  have a2 : IntKind.i64.wrap (2 * (M.half : Int) + (M.large : Int)) = 2 * (M.half : Int) + (M.large : Int) := wrap_small _ (by omega) (by omega)
  have d3 : decide ((lim : Int) < 2 * (M.half : Int) + (M.large : Int)) = false := decide_eq_false (by rw [← unhide HL]; omega)
  have d4 : decide ((M.half : Int) < (M.used : Int)) = false := decide_eq_false (by omega)
  have d4' : decide (M.half < M.used) = false := decide_eq_false (by omega)
  have d4'' : (M.used : Int) ≤ (M.half : Int) := by omega
  have d5 : decide ((M.half : Int) < 64) = false := decide_eq_false (by omega)
  have i1 : (0 : Int) < (M.used : Nat) := by omega
  go_wp2_with fail
  go_region_held3 (fun w' => w'.cell? ⟨ps, 3, none⟩ = some (.int .i64 (lim : Nat)) ∧ w'.cell? ⟨gt, 0, none⟩ = some (.int .i64 (M.limit : Nat)) ∧ w'.cell? ⟨gt, 1, none⟩ = some (.int .i64 (M.half : Nat)) ∧ w'.cell? ⟨gt, 2, none⟩ = some (.int .i64 (M.used : Nat)) ∧ w'.cell? ⟨gt, 3, none⟩ = some (.int .i64 (M.large : Nat)) ∧ w'.cell? ⟨ga, 0, none⟩ = some (.int .u64 (0 : Nat))) (go_keep) (fail)
  have HD : Hid (∀ W, Hid (Below w2.heap.size w2 W) → (∀ j, j < M.used → W.cell? ⟨ga, j, none⟩ = some (.int .u64 ((imgM M).getD j 0 : Nat))) ∧ W.heap[gt]? = some (sO M) ∧ W.cell? ⟨ps, 0, none⟩ = some (.pointer (some ⟨ph, 0, none⟩)) ∧ Hid (Below w.heap.size w W)) := hide (fun W q => by
    have q' := unhide q
    have hb := (unhide hI2).trans (q'.mono (unhide hI2).size)
    exact ⟨fun j hj => (q'.cell (p := ⟨ga, j, none⟩) (block_lt_of_cell ((unhide hA).2 j hj))).trans ((unhide hA).2 j hj), (q'.block gt (Array.getElem?_eq_some_iff.1 (unhide HT2)).1).trans (unhide HT2), (unhide HC _ (hide hb)).1, hide hb⟩)
  have G45 : Hid (∀ W x, x < 18446744073709551616 → Hid (Below w2.heap.size w2 W) → Calls Tryz.prog 45 #[.pointer (some ⟨ph, 0, none⟩), .int .u64 (x : Nat)] W fun e w' => e = .returned (.tuple #[.int .i64 ((objM M x).1 : Nat), .int .i64 ((objM M x).2.1 : Nat), .int .i64 ((objM M x).2.2.1 : Nat), .int .i64 ((objM M x).2.2.2 : Nat)]) ∧ Hid (Below w2.heap.size w2 w')) := hide (fun W x hx q => by
    refine (unhide H45 W x hx (unhide HD W q).2.2.2).mono fun e w' ⟨q1, q2, q3⟩ => ⟨q1, hide ((unhide q).trans ((unhide q3).mono (unhide q).size))⟩)
  have G29 : Hid (∀ W x i, x < 18446744073709551616 → Hid (Below w2.heap.size w2 W) → Calls Tryz.prog 29 #[.pointer (some ⟨ph, 0, none⟩), .int .u64 (x : Nat), .int .i64 i] W fun e w' => e = .returned (.tuple #[.int .u64 ((getM M x i).1 : Nat), .int .i64 ((getM M x i).2 : Nat)]) ∧ Hid (Below w2.heap.size w2 w')) := hide (fun W x i hx q => by
    refine (unhide H29 W x i hx (unhide HD W q).2.2.2).mono fun e w' ⟨q1, q2, q3⟩ => ⟨q1, hide ((unhide q).trans ((unhide q3).mono (unhide q).size))⟩)
  have HI2 : Hid (Below w2.heap.size w2 w2.drew) := hide (Below.refl w2.heap.size w2).drew
  clear H15 H16 H45 H29 HC x0 x3 p0 p1 p2 p3 p4 p5 p6 p7 p8 z0 d1 d2 d3 d4 d4' d4'' d5 a1 a2 hI1 hJ1 hJ2 hIa
  have hus := (unhide HW).ok.us
  have HUS := hide hus
  clear hus
  try dsimp only
  go_wp2_with fail
  generalize w2.drew = W2 at *
  go_loopw [5] (fun av wr => ∃ j : Nat, av = .int .i64 (place (shapes M M.small) j : Nat) ∧ j ≤ M.small.length ∧ Hid (Below w2.heap.size w2 wr)) (fun av _ => M.used - (intOf av).toNat)
  case atStart => exact ⟨0, rfl, Nat.zero_le _, HI2⟩
  case round =>
    obtain ⟨j, rfl, hj, hI⟩ := hrel
    obtain ⟨hcells, hgt2, x0, hbw⟩ := unhide HD _ hI
    by_cases hin : j < M.small.length
    · have hle : place (shapes M M.small) (j + 1) ≤ M.used := by rw [unhide HUS]; exact place_le _ (by omega)
      have hnx := place_next (M := M) hin
      have hhd := (unhide HP).h j hin
      have hfl := (unhide HP).f j
      have hkd := unhide hK j hin
      have hsz := (unhide HW).ss _ (small_get (unhide HW).ok hin).1
      have hnum := num_place (unhide HW).ok hin
      have hi0 := (small_get (unhide HW).ok hin).2
      have hins : ∀ q, q < _ → _ := fun q => num_inside (unhide HW).ok (j := j) (q := q) hin
      have hfn : (fldM M (M.small.getD j 0)).length = (ob M (M.small.getD j 0)).refs.length + (ob M (M.small.getD j 0)).raws.length := by unfold fldM; simp
      unfold osz at hsz
      obtain ⟨P, hP⟩ : ∃ P, place (shapes M M.small) j = P := ⟨_, rfl⟩
      obtain ⟨o, ho⟩ : ∃ o, M.small.getD j 0 = o := ⟨_, rfl⟩
      rw [hP] at hnx hhd hfl hnum hins ⊢
      rw [ho] at hnx hhd hfl hkd hsz hnum hi0 hins hfn
      have hobj : objM M P = ((ob M o).kind, (ob M o).refs.length, (ob M o).raws.length, 0) := by unfold objM; rw [hnum, if_neg hi0]
      have hget : ∀ q, q < (ob M o).refs.length + (ob M o).raws.length → getM M P (q : Int) = ((fldM M o).getD q 0, 0) := fun q hq => by
        unfold getM; rw [hnum, if_neg hi0, if_pos ⟨by omega, by rw [hfn]; omega⟩]; simp
      have hno : ∀ q, q < (ob M o).refs.length + (ob M o).raws.length → objM M (P + 1 + q) = (0, 0, 0, 32) := fun q hq => by
        unfold objM; rw [hins q hq, if_pos rfl]
      obtain ⟨kd, hkd'⟩ : ∃ kd, (ob M o).kind = kd := ⟨_, rfl⟩
      obtain ⟨rf, hrf⟩ : ∃ rf, (ob M o).refs.length = rf := ⟨_, rfl⟩
      obtain ⟨rr, hrr⟩ : ∃ rr, (ob M o).raws.length = rr := ⟨_, rfl⟩
      rw [hrf, hrr] at hnx hhd hsz hfn hobj hget hno
      rw [hkd'] at hhd hkd hobj
      have h0 := hcells P (by omega)
      rw [hhd] at h0
      have hz : Hid (∀ W, Hid (Below w2.heap.size w2 W) → W.cell? ⟨ga, P, none⟩ = some (.int .u64 ((kd + 256 * rf + 4294967296 * rr : Nat) : Int))) := hide (fun W q => by
        have := (unhide HD W q).1 P (by omega)
        rw [hhd] at this; exact this)
      have hG := hide (unhide G45 wr P (by omega) hI)
      rw [hobj] at hG
      have HF : Hid (∀ q, q < rf + rr → ∀ W, Hid (Below w2.heap.size w2 W) → W.cell? ⟨ga, P + 1 + q, none⟩ = some (.int .u64 ((fldM M o).getD q 0 : Nat))) := hide (fun q hq W hW => by
        have := (unhide HD W hW).1 (P + 1 + q) (by omega)
        rw [hfl q hin (by rw [hfn]; exact hq)] at this; exact this)
      have HG : Hid (∀ q, q < rf + rr → getM M P (q : Int) = ((fldM M o).getD q 0, 0)) := hide hget
      have HN : Hid (∀ q, q < rf + rr → objM M (P + 1 + q) = (0, 0, 0, 32)) := hide hno
      have HX : Hid (place (shapes M M.small) (j + 1) = P + 1 + rf + rr ∧ P + 1 + rf + rr ≤ M.used) := hide ⟨hnx, by omega⟩
      have hPu : P + 1 + rf + rr ≤ M.used := by omega
      clear hnx hhd hfl hnum hins hobj hget hno hkd' hrf hrr hfn hi0 h0 hP ho hle hcells hgt2
      have wu : IntKind.u64.wrap (P : Int) = (P : Int) := by rw [IntKind.wrap_u64]; omega
      have dlt : decide ((P : Int) < (M.used : Nat)) = true := decide_eq_true (by omega)
      have dlt' : decide (P < M.used) = true := decide_eq_true (by omega)
      go_wp2_with fail
      refine (unhide hG).mono ?_
      rintro e w3 ⟨rfl, hI3⟩
      have z1 := unhide hz _ hI3
      have x0 := (unhide HD _ hI3).2.2.1
      clear hI hG hbw
      have d1 : decide ((rf : Int) < 0) = false := decide_eq_false (by omega)
      have d2 : decide ((rr : Int) < 0) = false := decide_eq_false (by omega)
      have wk : IntKind.u64.wrap (kd : Int) = (kd : Int) := by rw [IntKind.wrap_u64]; omega
      have wf : IntKind.u64.wrap (rf : Int) = (rf : Int) := by rw [IntKind.wrap_u64]; omega
      have wr' : IntKind.u64.wrap (rr : Int) = (rr : Int) := by rw [IntKind.wrap_u64]; omega
      have i1 : (0 : Int) ≤ (P : Nat) := by omega
      have i2 : (P : Int) < (M.used : Nat) := by omega
      have b1 : IntKind.i64.wrap ((P : Int) + 1) = (P : Int) + 1 := wrap_small _ (by omega) (by omega)
      have b2 : IntKind.i64.wrap ((P : Int) + 1 + (rf : Int)) = (P : Int) + 1 + (rf : Int) := wrap_small _ (by omega) (by omega)
      have b3 : IntKind.i64.wrap ((P : Int) + 1 + (rf : Int) + (rr : Int)) = (P : Int) + 1 + (rf : Int) + (rr : Int) := wrap_small _ (by omega) (by omega)
      have b4 : IntKind.i64.wrap ((rf : Int) + (rr : Int)) = (rf : Int) + (rr : Int) := wrap_small _ (by omega) (by omega)
      go_wp2_with fail
      clear x0 z1
      go_loopw [10] (fun iv ws => ∃ q : Nat, iv = .int .i64 (q : Nat) ∧ q ≤ rf + rr ∧ Hid (Below w2.heap.size w2 ws)) (fun iv _ => rf + rr - (intOf iv).toNat)
      case atStart => exact ⟨0, rfl, Nat.zero_le _, by first | exact hI3 | exact hide (unhide hI3).drew⟩
      case round =>
        obtain ⟨q, rfl, hq, hI⟩ := hrel
        have w1 : IntKind.i64.wrap ((q : Int) + 1) = (q : Int) + 1 := wrap_small _ (by omega) (by omega)
        by_cases hqn : q < rf + rr
        · have x0 := (unhide HD _ hI).2.2.1
          have hG := hide (unhide G29 wr P q (by omega) hI)
          rw [unhide HG q hqn] at hG
          have HFq := hide (unhide HF q hqn)
          obtain ⟨v, hv⟩ : ∃ v, (fldM M o).getD q 0 = v := ⟨_, rfl⟩
          rw [hv] at hG HFq
          have HOq : Hid (∀ W, Hid (Below w2.heap.size w2 W) → Calls Tryz.prog 45 #[.pointer (some ⟨ph, 0, none⟩), .int .u64 ((P : Int) + 1 + (q : Int))] W fun e w' => e = .returned (.tuple #[.int .i64 0, .int .i64 0, .int .i64 0, .int .i64 32]) ∧ Hid (Below w2.heap.size w2 w')) := hide (fun W hW => by
            have := unhide G45 W (P + 1 + q) (by omega) hW
            rw [unhide HN q hqn] at this
            exact this)
          have c1 : IntKind.i64.wrap ((P : Int) + 1 + (q : Int)) = (P : Int) + 1 + (q : Int) := wrap_small _ (by omega) (by omega)
          have c2 : IntKind.u64.wrap ((P : Int) + 1 + (q : Int)) = (P : Int) + 1 + (q : Int) := by rw [IntKind.wrap_u64]; omega
          have e1 : decide ((M.used : Int) ≤ (P : Int) + 1 + (q : Int)) = false := decide_eq_false (by omega)
          have e2 : decide ((q : Int) < (rf : Int) + (rr : Int)) = true := decide_eq_true (by omega)
          have j1 : (0 : Int) ≤ (P : Int) + 1 + (q : Int) := by omega
          have j2 : (P : Int) + 1 + (q : Int) < (M.used : Nat) := by omega
          have j3 : ((P : Int) + 1 + (q : Int)).toNat = P + 1 + q := by omega
          clear hv hI
          go_wp2_with fail
          refine (unhide hG).mono ?_
          rintro e w4 ⟨rfl, hI4⟩
          have z4 := unhide HFq _ hI4
          have x0 := (unhide HD _ hI4).2.2.1
          go_wp2_with fail
          refine (unhide HOq _ hI4).mono ?_
          rintro e w5 ⟨rfl, hI5⟩
          clear z4 x0
          go_wp2_with fail
          all_goals go_roundw
          all_goals first | exact ⟨q + 1, by simp, by omega, hI5⟩ | (simp [intOf]; omega)
        · have hqe : q = rf + rr := by omega
          have e2 : decide ((q : Int) < (rf : Int) + (rr : Int)) = false := decide_eq_false (by omega)
          subst hqe
          go_wp2_with fail
          all_goals go_roundw
          all_goals first | exact ⟨j + 1, by rw [(unhide HX).1]; simp, by omega, hI⟩ | (simp [intOf]; omega)
    · have hje : j = M.small.length := by omega
      have hP : place (shapes M M.small) j = M.used := by rw [hje, unhide HUS]
      rw [hP]
      have dlt : decide ((M.used : Int) < (M.used : Nat)) = false := decide_eq_false (by omega)
      obtain ⟨p0, p1, p2, p3, p4, p5, p6, p7, p8⟩ := sO_cells hgt2
      clear hP hcells hgt2
      go_wp2_with fail
      refine (unhide H46 _ hbw).mono ?_
      rintro e w6 ⟨rfl, hI6⟩
      clear p0 p1 p2 p3 p4 p5 p6 p7 p8
      go_wp2_with fail
      all_goals go_ret
      all_goals exact ⟨by simp, by first | exact unhide hI6 | exact (unhide hI6).drew⟩
end Go.Proofs.YtidfllgaeiopjaaGreat
namespace Go.Proofs.YtidfllgaeiopjaaGreat
open Go.ChangeShapes Go.WideShapes Go.ChangeAt Go.RowKit
set_option linter.unusedVariables false
set_option linter.unusedSimpArgs false
set_option maxRecDepth 100000
set_option maxHeartbeats 4000000

theorem Moves3.under {w w' : World} {a : Option Addr} {n : Nat} (h : Moves3 w a n) (k : Below w.heap.size w w') : Moves3 w' a n := by
  rcases h with h | ⟨b, off, e, hb, hq⟩
  · exact .inl h
  · refine .inr ⟨b, off, e, Nat.lt_of_lt_of_le hb k.size, fun i hi => ?_⟩
    obtain ⟨q, h1, h2⟩ := hq i hi
    exact ⟨q, h1.like (k.block b hb), ⟨h2.a1, h2.a2, h2.vl, h2.dl, h2.sm, h2.by'.below k, h2.nl⟩⟩
theorem Inv.bel {ps ph lim n : Nat} {k : Kp} {M : Hp} {w : World} (h : Inv ps ph lim n k M w) : Below k.w.heap.size k.w w := by
  obtain ⟨tag, st, H, ns, C, last, b, bd⟩ := h
  exact b.o1.be
theorem bound_law (w : World) (lim : Int) (a : Option Addr) (n cap : Nat) (hS : Moves3 w a n) : Calls Tryz.prog 6 #[.agg #[.int .i64 lim, .slice a n cap]] w fun e w' => e = .returned (.bool true) ∧ Below w.heap.size w w' := by
  have hb0 : Below w.heap.size w (w.alloc (.cells #[.int .i64 lim, .slice a n cap] 24)) := (Below.refl _ _).alloc (Nat.le_refl _) _
  have hs0 : (w.alloc (.cells #[.int .i64 lim, .slice a n cap] 24)).heap.size = w.heap.size + 1 := by simp
  have z0 : (w.alloc (.cells #[.int .i64 lim, .slice a n cap] 24)).cell? ⟨w.heap.size, 0, none⟩ = some (.int .i64 lim) := World.cell?_alloc_at _ _ _ _ rfl
  have z1 : (w.alloc (.cells #[.int .i64 lim, .slice a n cap] 24)).cell? ⟨w.heap.size, 1, none⟩ = some (.slice a n cap) := World.cell?_alloc_at _ _ _ _ rfl
  have HP : Hid (∀ W, Below (w.heap.size + 1) (w.alloc (.cells #[.int .i64 lim, .slice a n cap] 24)) W → W.cell? ⟨w.heap.size, 0, none⟩ = some (.int .i64 lim) ∧ W.cell? ⟨w.heap.size, 1, none⟩ = some (.slice a n cap) ∧ Below w.heap.size w W ∧ w.heap.size < W.heap.size) := hide (fun W k => ⟨(k.cell (p := ⟨w.heap.size, 0, none⟩) (Nat.lt_succ_self _)).trans z0, (k.cell (p := ⟨w.heap.size, 1, none⟩) (Nat.lt_succ_self _)).trans z1, hb0.trans (k.mono (by omega)), by have := k.size; omega⟩)
  have H9 : Hid (∀ W, Below (w.heap.size + 1) (w.alloc (.cells #[.int .i64 lim, .slice a n cap] 24)) W → Calls Tryz.prog 9 #[] W fun e w' => e = .returned (.bool true) ∧ Below (w.heap.size + 1) (w.alloc (.cells #[.int .i64 lim, .slice a n cap] 24)) w') := hide (fun W k => (wakes_any W).mono fun e w' ⟨q1, q2⟩ => ⟨q1, k.trans (q2.mono (by have := k.size; omega))⟩)
  have H10 : Hid (∀ W, Below (w.heap.size + 1) (w.alloc (.cells #[.int .i64 lim, .slice a n cap] 24)) W → Calls Tryz.prog 10 #[.agg #[.int .i64 lim, .slice a n cap]] W fun e w' => ∃ v, e = .returned (.bool v) ∧ (v = true → n ≤ 200) ∧ Below (w.heap.size + 1) (w.alloc (.cells #[.int .i64 lim, .slice a n cap] 24)) w') := hide (fun W k => (small_any W lim a n cap (hS.under (hb0.trans (k.mono (by omega))))).mono fun e w' ⟨v, q1, q2, q3⟩ => ⟨v, q1, q2, k.trans (q3.mono (by have := k.size; omega))⟩)
  have hI0 : Below (w.heap.size + 1) (w.alloc (.cells #[.int .i64 lim, .slice a n cap] 24)) (w.alloc (.cells #[.int .i64 lim, .slice a n cap] 24)) := Below.refl _ _
  have HS := hide hS
  clear hb0 hs0 z0 z1 hS
  generalize hW : World.alloc w _ = W0 at *
  go_enter Tryz.func6, Tryz.ntmps6
  go_wp2_with fail
  (try rw [hW])
  clear hW
  refine (unhide H9 _ hI0).mono ?_
  clear hI0
  rintro e w1 ⟨rfl, hI1⟩
  obtain ⟨y0, y1, _, _⟩ := unhide HP _ hI1
  have HI1 := hide hI1
  clear hI1
  go_wp2_with fail
  refine (unhide H10 _ (unhide HI1)).mono ?_
  rintro e w2 ⟨v, rfl, hv, hI2⟩
  obtain ⟨y0, y1, hbw, _⟩ := unhide HP _ hI2
  have HI2 := hide hI2
  have HBW := hide hbw
  have HV := hide hv
  clear hI2 HI1 hbw hv H9 H10
  cases v
  · go_wp2_with fail
    go_ret
    exact ⟨rfl, unhide HBW⟩
  · have hn200 := unhide HV rfl
    by_cases hbad : lim < 128 ∨ 1048576 < lim
    · have H11 := hide (begins_bad (w := w2) hbad)
      clear hbad
      go_wp2_with fail
      refine (unhide H11).mono ?_
      rintro e w3 ⟨rfl, rfl⟩
      go_wp2_with fail
      go_ret
      exact ⟨rfl, unhide HBW⟩
    · obtain ⟨L, rfl⟩ : ∃ L : Nat, lim = (L : Nat) := ⟨lim.toNat, by omega⟩
      have H11 : Hid (Calls Tryz.prog 11 #[.int .i64 (L : Nat)] w2 fun e w' => ∃ ps ph, e = .returned (.tuple #[.pointer (some ⟨ps, 0, none⟩), .bool true]) ∧ Inv ps ph L 0 ⟨w2, w2, fun _ => False⟩ (newM L) w') := hide ((begins_any L (by omega) (by omega)).mono fun e w' ⟨ps, ph, tag, st, H, C, q1, q2⟩ => ⟨ps, ph, q1, tag, st, H, _, C, 0, q2, ⟨by show 1 ≤ 1; decide, by show 1 ≤ 1; decide, Nat.zero_le _, Nat.zero_le _, Nat.zero_le _, Nat.zero_le _, Nat.zero_le _⟩⟩)
      clear hbad
      go_wp2_with fail
      refine (unhide H11).mono ?_
      rintro e w3 ⟨ps, ph, rfl, hinv⟩
      have HV3 : Hid (∃ M, Inv ps ph L 0 ⟨w2, w2, fun _ => False⟩ M w3) := hide ⟨_, hinv⟩
      clear hinv
      have HC : Hid (∀ W, Below w2.heap.size w2 W → W.cell? ⟨w.heap.size, 1, none⟩ = some (.slice a n cap) ∧ Below w.heap.size w W) := hide (fun W k => by
        have k0 := unhide HI2
        have hz := (unhide HP _ k0).2.2.2
        have k1 : Below (w.heap.size + 1) W0 W := k0.trans (k.mono (by omega))
        exact ⟨(unhide HP _ k1).2.1, (unhide HP _ k1).2.2.1⟩)
      have HM : Hid (Moves3 w2 a n) := hide ((unhide HS).under (unhide HBW))
      clear H11 HI2 HBW HV HP HS y0 y1
      go_wp2_with fail
      go_loopw [5] (fun iv wr => ∃ i : Nat, iv = .int .i64 (i : Nat) ∧ i ≤ n ∧ Hid (∃ M, Inv ps ph L i ⟨w2, w2, fun _ => False⟩ M wr)) (fun iv _ => n - (intOf iv).toNat)
      case atStart => exact ⟨0, rfl, Nat.zero_le _, HV3⟩
      case round =>
        obtain ⟨i, rfl, hi, hI⟩ := hrel
        obtain ⟨M, hinv⟩ := unhide hI
        obtain ⟨y1, hbw⟩ := unhide HC _ hinv.bel
        have w1' : IntKind.i64.wrap ((i : Int) + 1) = (i : Int) + 1 := wrap_small _ (by omega) (by omega)
        by_cases hin : i < n
        · obtain ⟨bb, off, rfl, hbl, hq⟩ : ∃ b off, a = some ⟨b, off, none⟩ ∧ b < w2.heap.size ∧ ∀ i, i < n → ∃ q, MvAt w2 b (off + i * 8) q ∧ DataOk w2 q.A q.V q.a q.c q.l := by
            rcases unhide HM with h | h
            · omega
            · exact h
          obtain ⟨q, hm, hok⟩ := hq i hin
          have hmr := hm.like (hinv.bel.block bb hbl)
          obtain ⟨r0, r1, r2, r3, r4, r5, r6, r7⟩ := hmr
          have hst := hinv.step (by omega) q hok
          have H12 := hide hst
          clear hst hm hok hq hinv
          obtain ⟨K, A, B, C, HH, GG, V, da, dl, dc⟩ := q
          dsimp only at r0 r1 r2 r3 r4 r5 r6 r7 H12
          unfold mvV at H12
          obtain ⟨dn, hdn⟩ : ∃ dn, dl.length = dn := ⟨_, rfl⟩
          rw [hdn] at r7 H12
          clear hdn
          have dl' : decide ((i : Int) < (n : Nat)) = true := decide_eq_true (by omega)
          have i1 : (0 : Int) ≤ (i : Nat) := by omega
          have i2 : (i : Int) < (n : Nat) := by omega
          go_wp2_with fail
          refine (unhide H12).mono ?_
          rintro e w3 ⟨rfl, M3, hinv3, hs3⟩
          have H21 : Hid (Calls Tryz.prog 21 #[.pointer (some ⟨ps, 0, none⟩)] w3 fun e w' => e = .returned (.bool true) ∧ Hid (∃ M, Inv ps ph L (i + 1) ⟨w2, w2, fun _ => False⟩ M w')) := hide ((bounded_any hinv3 (by omega)).mono fun e w' ⟨q1, q2⟩ => ⟨q1, hide ⟨M3, hinv3.still q2⟩⟩)
          clear hinv3 hs3 H12 r0 r1 r2 r3 r4 r5 r6 r7 hbw hI
          go_wp2_with fail
          refine (unhide H21).mono ?_
          rintro e w4 ⟨rfl, HN⟩
          clear H21
          go_wp2_with fail
          all_goals go_roundw
          all_goals first | exact ⟨i + 1, by simp, by omega, HN⟩ | (simp [intOf]; omega)
        · have hiN : i = n := by omega
          subst hiN
          have dl' : decide ((i : Int) < (i : Nat)) = false := decide_eq_false (by omega)
          have HBW := hide hbw
          have H21 : Hid (Calls Tryz.prog 21 #[.pointer (some ⟨ps, 0, none⟩)] wr fun e w' => e = .returned (.bool true) ∧ Below w.heap.size w w') := hide ((bounded_any hinv (by omega)).mono fun e w' ⟨q1, q2⟩ => ⟨q1, hbw.trans (q2.mono hbw.size)⟩)
          clear hinv hbw
          go_wp2_with fail
          refine (unhide H21).mono ?_
          rintro e w5 ⟨rfl, hb5⟩
          have HB5 := hide hb5
          clear hb5
          go_wp2_with fail
          all_goals go_ret
          all_goals exact ⟨by simp, by first | exact unhide HB5 | exact (unhide HB5).drew⟩
end Go.Proofs.YtidfllgaeiopjaaGreat
