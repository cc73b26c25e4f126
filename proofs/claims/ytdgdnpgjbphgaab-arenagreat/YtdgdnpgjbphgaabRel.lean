/- The program's block against the document's. -/
import Derived.Test.YtdgdnpgjbphgaabRefBytes
import Derived.Test.YtdgdnpgjbphgaabRefImage
import Derived.Test.YtdgdnpgjbphgaabSteps
import Derived.Test.YtdgdnpgjbphgaabBookGrow
namespace Go.Proofs.Ytdgdnpgjbphgaab
open Go.ChangeShapes Go.WideShapes Go.ChangeAt Go.RowKit
set_option linter.unusedVariables false
set_option maxRecDepth 100000
set_option maxHeartbeats 2000000

/-- what is plain about the document's block -/
structure RefOk (R : RefSt) : Prop where
  xl : R.X.length = R.L.length
  gl : R.Gn.length = R.L.length
  xs : ∀ j, j < R.L.length → (R.X.getD j []).length = fldsOf R.L j
  u2 : R.used ≤ R.size
  sz : R.size ≤ 1048576
  sm : ∀ j k, (R.X.getD j []).getD k 0 < 18446744073709551616
  go : ∀ j t, R.Gn.getD j none = some t → t ≤ 1048576
  sh : ∀ j, j < R.L.length → 1 ≤ (R.L.getD j (0, 0, 0)).1 ∧ (R.L.getD j (0, 0, 0)).1 ≤ 255
theorem RefAt.ok {w : World} {pr r : Nat} {rt : Nat → Nat} {R : RefSt} (h : RefAt w pr r rt R) : RefOk R := ⟨h.xl, h.gl, h.xs, h.u2, h.sz, h.sm, h.go, h.sh⟩
structure Rel (ws : List Nat) (hs : List Bool) (used : Nat) (R : RefSt) : Prop where
  us : used = R.used
  sz : ws.length = R.size
  hl : hs.length = ws.length
  marks : ∀ k, k < used → (hs.getD k false = true ↔ ∃ j, j < R.L.length ∧ k = place R.L j)
  heads : ∀ j, j < R.L.length → ws.getD (place R.L j) 0 = rword R j
  flds : ∀ j k, j < R.L.length → k < fldsOf R.L j → ws.getD (place R.L j + 1 + k) 0 = (R.X.getD j []).getD k 0
  zero : ws.getD 0 0 = 0
theorem used_of (R : RefSt) (j : Nat) (hj : j < R.L.length) : place R.L j + 1 + fldsOf R.L j ≤ R.used := by
  have h1 := place_lt R.L hj
  unfold RefSt.used
  unfold wd at h1
  unfold fldsOf
  omega
theorem flds_le {R : RefSt} (o : RefOk R) (j : Nat) (hj : j < R.L.length) : (R.L.getD j (0, 0, 0)).2.1 ≤ 1048576 ∧ (R.L.getD j (0, 0, 0)).2.2 ≤ 1048576 ∧ fldsOf R.L j ≤ 1048576 := by
  have h1 := used_of R j hj
  have h2 := o.u2
  have h3 := o.sz
  have h4 : fldsOf R.L j = (R.L.getD j (0, 0, 0)).2.1 + (R.L.getD j (0, 0, 0)).2.2 := rfl
  omega
theorem rword_none {R : RefSt} {j : Nat} (hg : R.Gn.getD j none = none) : rword R j = (R.L.getD j (0, 0, 0)).1 + 256 * (R.L.getD j (0, 0, 0)).2.1 + 4294967296 * (R.L.getD j (0, 0, 0)).2.2 := by unfold rword; rw [hg]
theorem rword_some {R : RefSt} {j t : Nat} (hg : R.Gn.getD j none = some t) : rword R j = 9223372036854775808 + t := by unfold rword; rw [hg]
theorem rword_parts {R : RefSt} (o : RefOk R) {j : Nat} (hj : j < R.L.length) (hg : R.Gn.getD j none = none) : rword R j % 256 = (R.L.getD j (0, 0, 0)).1 ∧ rword R j / 256 % 16777216 = (R.L.getD j (0, 0, 0)).2.1 ∧ rword R j / 4294967296 % 16777216 = (R.L.getD j (0, 0, 0)).2.2 ∧ rword R j < 72057594037927936 := by
  rw [rword_none hg]
  obtain ⟨h1, h2, _⟩ := flds_le o j hj
  have h3 := o.sh j hj
  generalize (R.L.getD j (0, 0, 0)).1 = k at *
  generalize (R.L.getD j (0, 0, 0)).2.1 = r at *
  generalize (R.L.getD j (0, 0, 0)).2.2 = s at *
  omega
theorem Rel.there {ws : List Nat} {hs : List Bool} {used : Nat} {R : RefSt} (h : Rel ws hs used R) (j : Nat) (hj : j < R.L.length) : 1 ≤ place R.L j ∧ place R.L j < used ∧ hs.getD (place R.L j) false = true := by
  have h1 := used_of R j hj
  have h2 := h.us
  have hlt : place R.L j < used := by omega
  exact ⟨place_pos R.L j, hlt, (h.marks _ hlt).2 ⟨j, hj, rfl⟩⟩
theorem Rel.absent {ws : List Nat} {hs : List Bool} {used : Nat} {R : RefSt} (h : Rel ws hs used R) {at' : Int} (hno : ∀ j, j < R.L.length → at' ≠ (place R.L j : Nat)) : ¬ (1 ≤ at' ∧ at' < used ∧ hs.getD at'.toNat false = true) := by
  rintro ⟨h1, h2, h3⟩
  obtain ⟨k, rfl⟩ := Int.eq_ofNat_of_zero_le (show (0 : Int) ≤ at' by omega)
  rw [Int.toNat_natCast] at h3
  obtain ⟨j, hj, e⟩ := (h.marks k (by omega)).1 h3
  exact hno j hj (by rw [e])
theorem robj_none {R : RefSt} {j : Nat} (hj : j < R.L.length) (hg : R.Gn.getD j none = none) : robj R (place R.L j : Nat) = ((R.L.getD j (0, 0, 0)).1, (R.L.getD j (0, 0, 0)).2.1, (R.L.getD j (0, 0, 0)).2.2, 0) := by
  unfold robj
  rw [findJ_yes hj rfl]
  dsimp only
  rw [hg, if_neg (by simp)]
theorem robj_some {R : RefSt} {j t : Nat} (hj : j < R.L.length) (hg : R.Gn.getD j none = some t) : robj R (place R.L j : Nat) = (0, 0, 0, 26) := by
  unfold robj
  rw [findJ_yes hj rfl]
  dsimp only
  rw [hg, if_pos (show (some t).isSome = true from rfl)]
theorem robj_no {R : RefSt} {at' : Int} (hno : ∀ j, j < R.L.length → at' ≠ (place R.L j : Nat)) : robj R at' = (0, 0, 0, 23) := by
  unfold robj
  rw [findJ_no hno]
theorem rget_none {R : RefSt} {j : Nat} (hj : j < R.L.length) (hg : R.Gn.getD j none = none) (i : Int) : rget R (place R.L j : Nat) i = if 0 ≤ i ∧ i < (fldsOf R.L j : Nat) then ((R.X.getD j []).getD i.toNat 0, 0) else (0, 24) := by
  unfold rget
  rw [findJ_yes hj rfl]
  dsimp only
  rw [hg, if_neg (by simp)]
theorem rget_some {R : RefSt} {j t : Nat} (hj : j < R.L.length) (hg : R.Gn.getD j none = some t) (i : Int) : rget R (place R.L j : Nat) i = (0, 26) := by
  unfold rget
  rw [findJ_yes hj rfl]
  dsimp only
  rw [hg, if_pos (show (some t).isSome = true from rfl)]
theorem rget_no {R : RefSt} {at' : Int} (hno : ∀ j, j < R.L.length → at' ≠ (place R.L j : Nat)) (i : Int) : rget R at' i = (0, 23) := by
  unfold rget
  rw [findJ_no hno]
theorem rmoved_none {R : RefSt} {j : Nat} (hj : j < R.L.length) (hg : R.Gn.getD j none = none) : rmoved R (place R.L j : Nat) = (0, false, 0) := by
  unfold rmoved
  rw [findJ_yes hj rfl]
  dsimp only
  rw [hg]
theorem rmoved_some {R : RefSt} {j t : Nat} (hj : j < R.L.length) (hg : R.Gn.getD j none = some t) : rmoved R (place R.L j : Nat) = (t, true, 0) := by
  unfold rmoved
  rw [findJ_yes hj rfl]
  dsimp only
  rw [hg]
theorem rmoved_no {R : RefSt} {at' : Int} (hno : ∀ j, j < R.L.length → at' ≠ (place R.L j : Nat)) : rmoved R at' = (0, false, 23) := by
  unfold rmoved
  rw [findJ_no hno]
theorem top_sub (t : Nat) : 9223372036854775808 + t - 9223372036854775808 = t := Nat.add_sub_cancel_left ..
theorem Rel.obj {ws : List Nat} {hs : List Bool} {used : Nat} {R : RefSt} (h : Rel ws hs used R) (o : RefOk R) (at' : Int) : objRes ws hs used at' = robj R at' := by
  rcases at_cases R.L at' with ⟨j, hj, rfl⟩ | hno
  · obtain ⟨m1, m2, m3⟩ := h.there j hj
    unfold objRes
    rw [if_pos ⟨by omega, by omega, by rw [Int.toNat_natCast]; exact m3⟩, Int.toNat_natCast, h.heads j hj]
    cases hg : R.Gn.getD j none with
    | none =>
      obtain ⟨p1, p2, p3, p4⟩ := rword_parts o hj hg
      rw [if_neg (by omega), p1, p2, p3, robj_none hj hg]
    | some t => rw [rword_some hg, if_pos (Nat.le_add_right ..), robj_some hj hg]
  · unfold objRes
    rw [robj_no hno, if_neg (h.absent hno)]
theorem Rel.moved {ws : List Nat} {hs : List Bool} {used : Nat} {R : RefSt} (h : Rel ws hs used R) (o : RefOk R) (at' : Int) : movedRes ws hs used at' = rmoved R at' := by
  rcases at_cases R.L at' with ⟨j, hj, rfl⟩ | hno
  · obtain ⟨m1, m2, m3⟩ := h.there j hj
    unfold movedRes
    rw [if_pos ⟨by omega, by omega, by rw [Int.toNat_natCast]; exact m3⟩, Int.toNat_natCast, h.heads j hj]
    cases hg : R.Gn.getD j none with
    | none =>
      obtain ⟨p1, p2, p3, p4⟩ := rword_parts o hj hg
      rw [if_neg (by omega), rmoved_none hj hg]
    | some t => rw [rword_some hg, if_pos (Nat.le_add_right ..), rmoved_some hj hg, top_sub]
  · unfold movedRes
    rw [rmoved_no hno, if_neg (h.absent hno)]
theorem Rel.sound {ws : List Nat} {hs : List Bool} {used : Nat} {R : RefSt} (h : Rel ws hs used R) (o : RefOk R) : Sound ws hs used := by
  intro k hk hm hlt
  obtain ⟨j, hj, rfl⟩ := (h.marks k hk).1 hm
  rw [h.heads j hj] at hlt ⊢
  cases hg : R.Gn.getD j none with
  | some t => rw [rword_some hg] at hlt; omega
  | none =>
    obtain ⟨p1, p2, p3, p4⟩ := rword_parts o hj hg
    obtain ⟨f1, f2, f3⟩ := flds_le o j hj
    have hsh := o.sh j hj
    have hu := used_of R j hj
    have hus := h.us
    have hfl : fldsOf R.L j = (R.L.getD j (0, 0, 0)).2.1 + (R.L.getD j (0, 0, 0)).2.2 := rfl
    have hsz : sizeOf' (rword R j) = 1 + fldsOf R.L j := by unfold sizeOf'; rw [p2, p3, hfl]; omega
    refine ⟨⟨?_, p4⟩, by rw [hsz]; omega, fun i h1 h2 => ?_⟩
    · rw [p1, p2, p3]
      unfold Fits
      omega
    · rw [hsz] at h2
      cases e : hs.getD i false with
      | false => rfl
      | true =>
        exfalso
        obtain ⟨j2, hj2, rfl⟩ := (h.marks i (by omega)).1 e
        rcases Nat.lt_trichotomy j j2 with q | q | q
        · have := place_lt R.L q
          unfold wd at this
          omega
        · subst q; omega
        · have := place_lt R.L q
          unfold wd at this
          omega
theorem Rel.err {ws : List Nat} {hs : List Bool} {used : Nat} {R : RefSt} (h : Rel ws hs used R) (o : RefOk R) (at' i : Int) : fieldErr ws hs used at' i = rsetErr R at' i := by
  unfold fieldErr rsetErr
  rw [h.obj o]
  rcases at_cases R.L at' with ⟨j, hj, rfl⟩ | hno
  · cases hg : R.Gn.getD j none with
    | none =>
      rw [robj_none hj hg, rget_none hj hg, if_neg (by simp)]
      show (if 0 ≤ i ∧ i < (fldsOf R.L j : Nat) then 0 else 24) = _
      split <;> rfl
    | some t => rw [robj_some hj hg, rget_some hj hg, if_pos (by simp)]
  · rw [robj_no hno, rget_no hno, if_pos (by simp)]
/-- an object that is there -/
theorem robj_zero {R : RefSt} {at' : Int} (h : (robj R at').2.2.2 = 0) : ∃ j, j < R.L.length ∧ at' = (place R.L j : Nat) ∧ R.Gn.getD j none = none ∧ robj R at' = ((R.L.getD j (0, 0, 0)).1, (R.L.getD j (0, 0, 0)).2.1, (R.L.getD j (0, 0, 0)).2.2, 0) := by
  rcases at_cases R.L at' with ⟨j, hj, rfl⟩ | hno
  · cases hg : R.Gn.getD j none with
    | none => exact ⟨j, hj, rfl, hg, robj_none hj hg⟩
    | some t => rw [robj_some hj hg] at h; cases h
  · rw [robj_no hno] at h
    cases h
theorem rget_zero {R : RefSt} {at' i : Int} (h : rsetErr R at' i = 0) : ∃ j m : Nat, j < R.L.length ∧ at' = (place R.L j : Nat) ∧ i = m ∧ m < fldsOf R.L j ∧ R.Gn.getD j none = none ∧ rget R at' i = ((R.X.getD j []).getD m 0, 0) ∧ robj R at' = ((R.L.getD j (0, 0, 0)).1, (R.L.getD j (0, 0, 0)).2.1, (R.L.getD j (0, 0, 0)).2.2, 0) := by
  unfold rsetErr at h
  rcases at_cases R.L at' with ⟨j, hj, rfl⟩ | hno
  · cases hg : R.Gn.getD j none with
    | none =>
      rw [rget_none hj hg] at h
      by_cases hi : 0 ≤ i ∧ i < (fldsOf R.L j : Nat)
      · obtain ⟨m, rfl⟩ := Int.eq_ofNat_of_zero_le hi.1
        exact ⟨j, m, hj, rfl, rfl, by omega, hg, by rw [rget_none hj hg, if_pos hi, Int.toNat_natCast], robj_none hj hg⟩
      · rw [if_neg hi] at h; cases h
    | some t => rw [rget_some hj hg] at h; cases h
  · rw [rget_no hno] at h
    cases h
/-- New -/
theorem Rel.new (n : Nat) (h1 : 1 ≤ n) : Rel (List.replicate n 0) (List.replicate n false) 1 (RefSt.new n) := by
  refine ⟨rfl, by simp [RefSt.new], by simp, fun k hk => ⟨fun h => ?_, fun ⟨j, hj, _⟩ => absurd hj (Nat.not_lt_zero _)⟩, fun j hj => absurd hj (Nat.not_lt_zero _), fun j k hj => absurd hj (Nat.not_lt_zero _), rep_at n 0 0 0 (by omega)⟩
  rw [rep_at n k false false (by omega)] at h
  cases h
/-- Clear -/
theorem Rel.clear {ws : List Nat} {hs : List Bool} {used : Nat} {R : RefSt} (h : Rel ws hs used R) (hu : 1 ≤ used) : Rel ws hs 1 (RefSt.new R.size) := by
  refine ⟨rfl, h.sz, h.hl, fun k hk => ⟨fun e => ?_, fun ⟨j, hj, _⟩ => absurd hj (Nat.not_lt_zero _)⟩, fun j hj => absurd hj (Nat.not_lt_zero _), fun j k hj => absurd hj (Nat.not_lt_zero _), h.zero⟩
  obtain ⟨j, hj, e2⟩ := (h.marks k (by omega)).1 e
  have := place_pos R.L j
  omega
/-- Set -/
theorem Rel.put {ws : List Nat} {hs : List Bool} {used : Nat} {R : RefSt} (h : Rel ws hs used R) (o : RefOk R) (j m v : Nat) (hj : j < R.L.length) (hm : m < fldsOf R.L j) : Rel (ws.set (place R.L j + 1 + m) v) hs used (R.put j m v) := by
  have hu := used_of R j hj
  have h2 := o.u2
  have h3 := h.sz
  have hq : place R.L j + 1 + m < ws.length := by omega
  have hat := fun i => put_at R j m v i (by rw [o.xl]; exact hj)
  refine ⟨h.us, by rw [List.length_set]; exact h.sz, by rw [List.length_set]; exact h.hl, h.marks, fun i hi => ?_, fun i k hi hk => ?_, ?_⟩
  · have hi' : i < R.L.length := hi
    show (ws.set _ v).getD (place R.L i) 0 = rword R i
    rw [getD_set _ _ _ _ hq, if_neg ?_]
    · exact h.heads i hi'
    · intro e
      rcases Nat.lt_trichotomy i j with q | q | q
      · have := place_lt R.L q; unfold wd at this; omega
      · subst q; omega
      · have := place_lt R.L q; unfold wd at this; unfold fldsOf at hm; omega
  · have hi' : i < R.L.length := hi
    have hk' : k < fldsOf R.L i := hk
    show (ws.set _ v).getD (place R.L i + 1 + k) 0 = _
    rw [getD_set _ _ _ _ hq, hat i]
    by_cases e : place R.L i + 1 + k = place R.L j + 1 + m
    · obtain ⟨rfl, rfl⟩ := place_apart R.L i k j m hk' hm e
      rw [if_pos rfl, if_pos rfl, getD_set _ _ _ _ (by rw [o.xs i hi']; exact hm), if_pos rfl]
    · rw [if_neg e]
      by_cases e2 : i = j
      · subst e2
        rw [if_pos rfl, getD_set _ _ _ _ (by rw [o.xs i hi']; exact hm), if_neg (by omega)]
        exact h.flds i k hi' hk'
      · rw [if_neg e2]
        exact h.flds i k hi' hk'
  · rw [getD_set _ _ _ _ hq, if_neg (by omega)]
    exact h.zero
theorem place_old (L : List (Nat × Nat × Nat)) (s : Nat × Nat × Nat) : ∀ i, i ≤ L.length → place (L ++ [s]) i = place L i
  | 0, _ => rfl
  | i + 1, h => by
    show place (L ++ [s]) i + wd ((L ++ [s]).getD i (0, 0, 0)) = place L i + wd (L.getD i (0, 0, 0))
    rw [place_old L s i (by omega), getD_old _ _ _ _ (by omega)]
theorem flds_old (L : List (Nat × Nat × Nat)) (s : Nat × Nat × Nat) (i : Nat) (h : i < L.length) : fldsOf (L ++ [s]) i = fldsOf L i := by unfold fldsOf; rw [getD_old _ _ _ _ h]
theorem rword_old {R : RefSt} (o : RefOk R) (k rf rw' : Nat) (x : List Nat) (F v' : Value) (j : Nat) (hj : j < R.L.length) : rword (R.lay k rf rw' x F v') j = rword R j := by
  unfold rword RefSt.lay
  dsimp only
  rw [getD_old _ _ _ _ (by rw [o.gl]; exact hj), getD_old _ _ _ _ hj]
theorem used_lay (R : RefSt) (k rf rw' : Nat) (x : List Nat) (F v' : Value) : (R.lay k rf rw' x F v').used = R.used + (1 + rf + rw') := by
  show place (R.L ++ [(k, rf, rw')]) (R.L ++ [(k, rf, rw')]).length = _
  rw [List.length_append, List.length_singleton, place_snoc]
  rfl
/-- an object more -/
theorem Rel.lay {ws ws' : List Nat} {hs : List Bool} {used : Nat} {R : RefSt} (h : Rel ws hs used R) (o : RefOk R) (k rf rw' : Nat) (x : List Nat) (F v' : Value) (hx : x.length = rf + rw') (hfit : used + (1 + rf + rw') ≤ ws.length)
    (hl : ws'.length = ws.length) (hold : ∀ i, i < used → ws'.getD i 0 = ws.getD i 0) (hhd : ws'.getD used 0 = k + 256 * rf + 4294967296 * rw') (hfd : ∀ i, i < rf + rw' → ws'.getD (used + 1 + i) 0 = x.getD i 0) :
    Rel ws' (mark hs used (1 + rf + rw')) (used + (1 + rf + rw')) (R.lay k rf rw' x F v') := by
  have hus := h.us
  have hpl : place R.L R.L.length = used := hus.symm
  have hLl : (R.lay k rf rw' x F v').L.length = R.L.length + 1 := by show (R.L ++ [_]).length = _; simp
  refine ⟨by rw [used_lay, hus], by rw [hl]; exact h.sz, by rw [mark_length, hl]; exact h.hl, fun i hi => ?_, fun j hj => ?_, fun j i hj hi => ?_, ?_⟩
  · rw [mark_at _ _ _ _ (by rw [h.hl]; omega)]
    constructor
    · intro e
      by_cases e1 : i = used
      · refine ⟨R.L.length, by omega, ?_⟩
        show i = place (R.L ++ [_]) R.L.length
        rw [place_old _ _ _ (Nat.le_refl _), hpl, e1]
      · rw [if_neg e1] at e
        by_cases e2 : used ≤ i ∧ i < used + (1 + rf + rw')
        · rw [if_pos e2] at e; cases e
        · rw [if_neg e2] at e
          obtain ⟨j, hj, rfl⟩ := (h.marks i (by omega)).1 e
          refine ⟨j, by omega, ?_⟩
          show place R.L j = place (R.L ++ [_]) j
          rw [place_old _ _ _ (by omega)]
    · rintro ⟨j, hj, e⟩
      have e' : i = place (R.L ++ [(k, rf, rw')]) j := e
      rw [place_old _ _ _ (by omega)] at e'
      by_cases e1 : j = R.L.length
      · rw [e1, hpl] at e'
        rw [if_pos e']
      · have h1 := h.there j (by omega)
        rw [if_neg (by omega), if_neg (by omega), e']
        exact h1.2.2
  · show ws'.getD (place (R.L ++ [(k, rf, rw')]) j) 0 = _
    rw [place_old _ _ _ (by omega)]
    by_cases e1 : j < R.L.length
    · rw [rword_old o _ _ _ _ _ _ _ e1, hold _ (h.there j e1).2.1]
      exact h.heads j e1
    · have e2 : j = R.L.length := by omega
      subst e2
      rw [hpl, hhd]
      unfold rword RefSt.lay
      dsimp only
      rw [getD_last _ _ _ _ o.gl, getD_last _ _ _ _ rfl]
  · have hi' : i < fldsOf (R.L ++ [(k, rf, rw')]) j := hi
    show ws'.getD (place (R.L ++ [(k, rf, rw')]) j + 1 + i) 0 = ((R.X ++ [x]).getD j []).getD i 0
    rw [place_old _ _ _ (by omega)]
    by_cases e1 : j < R.L.length
    · rw [flds_old _ _ _ e1] at hi'
      have h1 := used_of R j e1
      rw [hold _ (by omega), getD_old _ _ _ _ (by rw [o.xl]; exact e1)]
      exact h.flds j i e1 hi'
    · have e2 : j = R.L.length := by omega
      subst e2
      rw [hpl, getD_last _ _ _ _ o.xl]
      unfold fldsOf at hi'
      rw [getD_last _ _ _ _ rfl] at hi'
      exact hfd i hi'
  · have hp := place_pos R.L R.L.length
    rw [hold 0 (by omega)]
    exact h.zero
theorem mark_gn (R : RefSt) (j t i : Nat) (hj : j < R.Gn.length) : (R.mark j t).Gn.getD i none = if i = j then some t else R.Gn.getD i none := by
  show (R.Gn.set j (some t)).getD i none = _
  rw [List.getD_eq_getElem?_getD, List.getElem?_set]
  by_cases e : j = i
  · subst e
    rw [if_pos rfl, if_pos hj, if_pos rfl]; rfl
  · rw [if_neg e, if_neg (fun h => e h.symm), ← List.getD_eq_getElem?_getD]
/-- an object is gone -/
theorem Rel.gone {ws : List Nat} {hs : List Bool} {used : Nat} {R : RefSt} (h : Rel ws hs used R) (o : RefOk R) (j t : Nat) (hj : j < R.L.length) : Rel (ws.set (place R.L j) (9223372036854775808 + t)) hs used (R.mark j t) := by
  have hm := h.there j hj
  have h2 := o.u2
  have h3 := h.sz
  have h4 := h.us
  have hq : place R.L j < ws.length := by omega
  have hat := fun i => mark_gn R j t i (by rw [o.gl]; exact hj)
  refine ⟨h.us, by rw [List.length_set]; exact h.sz, by rw [List.length_set]; exact h.hl, h.marks, fun i hi => ?_, fun i k hi hk => ?_, ?_⟩
  · have hi' : i < R.L.length := hi
    show (ws.set _ _).getD (place R.L i) 0 = rword (R.mark j t) i
    rw [getD_set _ _ _ _ hq]
    by_cases e : i = j
    · subst e
      rw [if_pos rfl]
      have hg : (R.mark i t).Gn.getD i none = some t := by rw [hat i, if_pos rfl]
      rw [rword_some hg]
    · rw [if_neg (fun e2 => e (place_inj R.L e2)), h.heads i hi']
      have hg := hat i
      rw [if_neg e] at hg
      unfold rword
      rw [hg]
      rfl
  · have hi' : i < R.L.length := hi
    have hk' : k < fldsOf R.L i := hk
    show (ws.set _ _).getD (place R.L i + 1 + k) 0 = (R.X.getD i []).getD k 0
    rw [getD_set _ _ _ _ hq, if_neg ?_]
    · exact h.flds i k hi' hk'
    · intro e
      rcases Nat.lt_trichotomy i j with q | q | q
      · have := place_lt R.L q; unfold wd at this; unfold fldsOf at hk'; omega
      · subst q; omega
      · have := place_lt R.L q; unfold wd at this; omega
  · rw [getD_set _ _ _ _ hq, if_neg (by omega)]
    exact h.zero
/-- the image -/
theorem Rel.image {ws : List Nat} {hs : List Bool} {used : Nat} {R : RefSt} (h : Rel ws hs used R) (o : RefOk R) : ∀ m, m ≤ R.L.length → (rimg R m).length = place R.L m ∧ ∀ k, k < place R.L m → ws.getD k 0 = (rimg R m).getD k 0
  | 0, _ => ⟨rfl, fun k hk => by
    have : k = 0 := by have h1 : place R.L 0 = 1 := rfl; omega
    subst this
    exact h.zero⟩
  | m + 1, hm => by
    obtain ⟨ih1, ih2⟩ := Rel.image h o m (by omega)
    have hx := o.xs m (by omega)
    have hpm : place R.L (m + 1) = place R.L m + 1 + fldsOf R.L m := by
      show place R.L m + wd (R.L.getD m (0, 0, 0)) = _
      unfold wd fldsOf
      omega
    refine ⟨by rw [rimg_succ, List.length_append, List.length_append, ih1, hx, hpm]; simp, fun k hk => ?_⟩
    rw [rimg_succ, List.getD_eq_getElem?_getD (l := rimg R m ++ [rword R m] ++ R.X.getD m [])]
    by_cases e1 : k < place R.L m
    · rw [List.getElem?_append_left (by rw [List.length_append, ih1]; simp; omega), List.getElem?_append_left (by rw [ih1]; exact e1), ← List.getD_eq_getElem?_getD]
      exact ih2 k e1
    · by_cases e2 : k = place R.L m
      · rw [List.getElem?_append_left (by rw [List.length_append, ih1]; simp; omega), List.getElem?_append_right (by rw [ih1]; omega), ih1, e2, Nat.sub_self]
        exact h.heads m (by omega)
      · rw [List.getElem?_append_right (by rw [List.length_append, ih1]; simp; omega), List.length_append, ih1, ← List.getD_eq_getElem?_getD]
        have h5 := h.flds m (k - (place R.L m + 1)) (by omega) (by omega)
        rw [show place R.L m + 1 + (k - (place R.L m + 1)) = k by omega] at h5
        exact h5
end Go.Proofs.Ytdgdnpgjbphgaab
