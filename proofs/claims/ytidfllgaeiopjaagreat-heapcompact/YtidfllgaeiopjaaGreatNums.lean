/- container/heap over the free numbers of a pool. -/
import Derived.Test.YtidfllgaeiopjaaGreatArD
import Derived.WalkSpells
import Derived.Test.YtidfllgaeiopjaaGreatPoolMath
namespace Go.Proofs.YtidfllgaeiopjaaGreat
open Go.ChangeShapes Go.WideShapes Go.ChangeAt Go.RowKit
set_option linter.unusedVariables false
set_option maxRecDepth 100000
set_option maxHeartbeats 4000000

/-- the first words of l lie in the raws of object j -/
def RefSt.fill (R : RefSt) (j : Nat) (l : List Nat) : Nat → RefSt
  | 0 => R
  | m + 1 => (R.fill j l m).put j ((R.L.getD j (0, 0, 0)).2.1 + m) (l.getD m 0)
theorem fill_same (R : RefSt) (j : Nat) (l : List Nat) : ∀ m, (R.fill j l m).L = R.L ∧ (R.fill j l m).F = R.F ∧ (R.fill j l m).v = R.v ∧ (R.fill j l m).Gn = R.Gn ∧ (R.fill j l m).size = R.size
  | 0 => ⟨rfl, rfl, rfl, rfl, rfl⟩
  | m + 1 => fill_same R j l m
end Go.Proofs.YtidfllgaeiopjaaGreat
namespace Go.Proofs.YtidfllgaeiopjaaGreat
open Go.ChangeShapes Go.WideShapes Go.ChangeAt Go.RowKit
set_option linter.unusedVariables false
set_option maxRecDepth 100000
set_option maxHeartbeats 8000000

structure GrowingU (pb o : Nat) (S : BookSt) (t0 : Nat → Nat) (w0 : World) (tag : Nat → Nat) (w : World) (B : HalfSt) (more : Nat) : Prop where
  mid : Mid pb o t0 w0 tag w ((S.flds.set 6 B.v).set 7 B.o) S.turn S.b B
  lenL : B.L.length = S.u.M.length + more
  lenM : B.M.length = S.u.M.length + more
  n : B.n = 1000000000000
  preL : ∀ j, j < S.u.M.length → B.L.getD j undef = S.u.L.getD j undef
  preM : ∀ j, j < S.u.M.length → B.M.getD j 0 = S.u.M.getD j 0
end Go.Proofs.YtidfllgaeiopjaaGreat
namespace Go.Proofs.YtidfllgaeiopjaaGreat
open Go.ChangeShapes Go.WideShapes Go.ChangeAt Go.RowKit
set_option linter.unusedVariables false
set_option maxRecDepth 100000
set_option maxHeartbeats 8000000

end Go.Proofs.YtidfllgaeiopjaaGreat
namespace Go.Proofs.YtidfllgaeiopjaaGreat
open Go.ChangeShapes Go.WideShapes Go.ChangeAt Go.RowKit
set_option linter.unusedVariables false
set_option maxRecDepth 100000
set_option maxHeartbeats 2000000

/-- three blocks -/
structure Three (w : World) (P : Nat → Nat × Nat × Nat) (S : Nat → List Nat × List Bool × Nat) : Prop where
  ar : ∀ i, i < 3 → Ar w (P i).1 (P i).2.1 (P i).2.2 (S i).1 (S i).2.1 (S i).2.2
  sound : ∀ i, i < 3 → Sound (S i).1 (S i).2.1 (S i).2.2
def t3 (n : Int) : Nat := (n % 3).toNat
end Go.Proofs.YtidfllgaeiopjaaGreat
namespace Go.Proofs.YtidfllgaeiopjaaGreat
open Go.ChangeShapes Go.WideShapes Go.ChangeAt Go.RowKit
set_option linter.unusedVariables false
set_option maxRecDepth 100000
set_option maxHeartbeats 2000000

/-- a pair: the program's block, the document's -/
structure Dat where
  p : Nat
  bw : Nat
  bh : Nat
  ws : List Nat
  hs : List Bool
  used : Nat
  pr : Nat
  R : RefSt
theorem Ar.conf {w w' : World} {p bw bh : Nat} {ws : List Nat} {hs : List Bool} {used : Nat} (h : Ar w p bw bh ws hs used) (hs1 : w.heap.size ≤ w'.heap.size) (h1 : w'.heap[p]? = w.heap[p]?) (h2 : w'.heap[bw]? = w.heap[bw]?) (h3 : w'.heap[bh]? = w.heap[bh]?) : Ar w' p bw bh ws hs used where
  c0 := (World.cell?_of_block (a := ⟨p, 0, none⟩) h1).trans h.c0
  c1 := (World.cell?_of_block (a := ⟨p, 1, none⟩) h1).trans h.c1
  c2 := (World.cell?_of_block (a := ⟨p, 2, none⟩) h1).trans h.c2
  f2 := (World.frozen?_of_block (a := ⟨p, 2, none⟩) h1).trans h.f2
  ww j hj := (World.cell?_of_block (a := ⟨bw, j, none⟩) h2).trans (h.ww j hj)
  wf j hj := (World.frozen?_of_block (a := ⟨bw, j, none⟩) h2).trans (h.wf j hj)
  hh j hj := (World.cell?_of_block (a := ⟨bh, j, none⟩) h3).trans (h.hh j hj)
  hf j hj := (World.frozen?_of_block (a := ⟨bh, j, none⟩) h3).trans (h.hf j hj)
  hl := h.hl
  ne1 := h.ne1
  ne2 := h.ne2
  ne3 := h.ne3
  lp := Nat.lt_of_lt_of_le h.lp hs1
  lw := Nat.lt_of_lt_of_le h.lw hs1
  lh := Nat.lt_of_lt_of_le h.lh hs1
  u1 := h.u1
  u2 := h.u2
  sz := h.sz
  small := h.small
end Go.Proofs.YtidfllgaeiopjaaGreat
namespace Go.Proofs.YtidfllgaeiopjaaGreat
open Go.ChangeShapes Go.WideShapes Go.ChangeAt Go.RowKit
set_option linter.unusedVariables false
set_option maxRecDepth 100000
set_option maxHeartbeats 2000000

theorem p_object {p bw bh : Nat} {ws : List Nat} {hs : List Bool} {used : Nat} {R : RefSt} {w : World} (h : Ar w p bw bh ws hs used) (r : Rel ws hs used R) (o : RefOk R) (at' : Int) :
    Calls Tryz.prog 103 #[.pointer (some ⟨p, 0, none⟩), .int .i64 at'] w fun e w' => e = .returned (.tuple #[.int .i64 ((robj R at').1 : Nat), .int .i64 ((robj R at').2.1 : Nat), .int .i64 ((robj R at').2.2.1 : Nat), .int .i64 ((robj R at').2.2.2 : Nat)]) ∧ Below w.heap.size w w' := by
  have := object_any at' w h (r.sound o).heads
  rw [r.obj o] at this
  exact this
theorem rget_zero1 {R : RefSt} {at' i : Int} (h : rsetErr R at' i ≠ 0) : (rget R at' i).1 = 0 := by
  unfold rsetErr at h
  rcases at_cases R.L at' with ⟨j, hj, rfl⟩ | hno
  · cases hg : R.Gn.getD j none with
    | none =>
      rw [rget_none hj hg] at h ⊢
      split at h
      · exact absurd rfl h
      · rename_i hi; rw [if_neg hi]
    | some t => rw [rget_some hj hg]
  · rw [rget_no hno]
theorem p_get {p bw bh : Nat} {ws : List Nat} {hs : List Bool} {used : Nat} {R : RefSt} {w : World} (h : Ar w p bw bh ws hs used) (r : Rel ws hs used R) (o : RefOk R) (at' i : Int) :
    Calls Tryz.prog 166 #[.pointer (some ⟨p, 0, none⟩), .int .i64 at', .int .i64 i] w fun e w' => e = .returned (.tuple #[.int .u64 ((rget R at' i).1 : Nat), .int .i64 ((rget R at' i).2 : Nat)]) ∧ Below w.heap.size w w' := by
  by_cases he : rsetErr R at' i = 0
  · obtain ⟨j, m, hj, rfl, rfl, hm, hg, e1, e2⟩ := rget_zero he
    have hob := (r.obj o (place R.L j : Nat)).trans e2
    refine (get_yes (place R.L j) m w h (r.sound o).heads (by rw [hob]) (by rw [hob]; exact hm)).mono ?_
    rintro e w' ⟨rfl, hb⟩
    refine ⟨?_, hb⟩
    rw [e1, r.flds j m hj hm]
    rfl
  · refine (get_no at' i w h (r.sound o).heads _ (r.err o at' i).symm he).mono ?_
    rintro e w' ⟨rfl, hb⟩
    refine ⟨?_, hb⟩
    rw [rget_zero1 he]
    rfl
theorem p_set {p bw bh : Nat} {ws : List Nat} {hs : List Bool} {used : Nat} {R : RefSt} {w : World} (h : Ar w p bw bh ws hs used) (r : Rel ws hs used R) (o : RefOk R) (at' i : Int) (v : Nat) (hv : v < 18446744073709551616) :
    Calls Tryz.prog 167 #[.pointer (some ⟨p, 0, none⟩), .int .i64 at', .int .i64 i, .int .u64 (v : Nat)] w fun e w' => e = .returned (.int .i64 (rsetErr R at' i : Nat)) ∧ But [p, bw, bh] w w' ∧ ∃ ws', Ar w' p bw bh ws' hs used ∧ (rsetErr R at' i ≠ 0 → ws' = ws) ∧ (rsetErr R at' i = 0 → ∀ j m : Nat, j < R.L.length → at' = (place R.L j : Nat) → i = m → m < fldsOf R.L j → Rel ws' hs used (R.put j m v)) := by
  by_cases he : rsetErr R at' i = 0
  · obtain ⟨j, m, hj, rfl, rfl, hm, hg, e1, e2⟩ := rget_zero he
    have hob := (r.obj o (place R.L j : Nat)).trans e2
    refine (set_yes (place R.L j) m v w hv h (r.sound o).heads (by rw [hob]) (by rw [hob]; exact hm)).mono ?_
    rintro e w' ⟨rfl, hA, hB⟩
    refine ⟨by rw [he]; rfl, hB.over (by simp), _, hA, fun hne => absurd he hne, fun _ j2 m2 hj2 e3 e4 hm2 => ?_⟩
    have := place_inj R.L (Int.ofNat.inj e3)
    subst this
    have := Int.ofNat.inj e4
    subst this
    exact r.put o j m v hj hm
  · refine (set_no at' i v w h (r.sound o).heads _ (r.err o at' i).symm he).mono ?_
    rintro e w' ⟨rfl, hb⟩
    exact ⟨rfl, But.of_below hb, ws, h.below hb, fun _ => rfl, fun h0 => absurd h0 he⟩
theorem p_clear {p bw bh : Nat} {ws : List Nat} {hs : List Bool} {used : Nat} {w : World} (h : Ar w p bw bh ws hs used) :
    Calls Tryz.prog 67 #[.pointer (some ⟨p, 0, none⟩)] w fun e w' => e = .returned (.tuple #[]) ∧ Ar w' p bw bh ws hs 1 ∧ But [p, bw, bh] w w' := by
  have hA := h.grown 1 (by omega) (by have := h.u1; have := h.u2; omega)
  have hB : But [p, bw, bh] w (w.setCell ⟨p, 2, none⟩ (.int .i64 ((1 : Nat) : Int))) := (But.refl _ _).set ⟨p, 2, none⟩ (by simp) _
  have c2 := h.c2
  have f2 := h.f2
  have HA := hide hA
  have HB := hide hB
  clear h hA hB
  go_enter Tryz.func67, Tryz.ntmps67
  go_wp2
  go_end0
  exact ⟨rfl, unhide HA, unhide HB⟩
/-- the words of an object behind each other -/
theorem laid_old (ws : List Nat) (u n x i : Nat) (h : i < u) (hn : u ≤ ws.length) : (laid ws u n x).getD i 0 = ws.getD i 0 := by
  rw [laid_at _ _ _ _ _ (by omega), if_neg (by omega), if_neg (by omega)]
theorem alloc_rel {ws : List Nat} {hs : List Bool} {used : Nat} {R : RefSt} (r : Rel ws hs used R) (o : RefOk R) (k rf rw' : Nat) (F v' : Value) (hfit : used + (1 + rf + rw') ≤ ws.length) : Rel (laid ws used (1 + rf + rw') (k + 256 * rf + 4294967296 * rw')) (mark hs used (1 + rf + rw')) (used + (1 + rf + rw')) (R.lay k rf rw' (List.replicate (rf + rw') 0) F v') := by
  refine r.lay o k rf rw' _ F v' (by simp) hfit (laid_length _ _ _ _) (fun i hi => laid_old _ _ _ _ _ hi (by omega)) ?_ (fun i hi => ?_)
  · rw [laid_at _ _ _ _ _ (by omega), if_pos rfl]
  · rw [laid_at _ _ _ _ _ (by omega), if_neg (by omega), if_pos (by omega), getD_zeros]
theorem take_rel {wd : List Nat} {hd : List Bool} {ud : Nat} {Rd : RefSt} (r : Rel wd hd ud Rd) (o : RefOk Rd) {ws : List Nat} {hs : List Bool} {us : Nat} {R : RefSt} (rs : Rel ws hs us R) (os : RefOk R) (j : Nat) (hj : j < R.L.length) (hg : R.Gn.getD j none = none) (F v' : Value) (hfit : ud + (1 + (R.L.getD j (0, 0, 0)).2.1 + (R.L.getD j (0, 0, 0)).2.2) ≤ wd.length) :
    Rel (patch wd ud (runL ws (place R.L j) (1 + (R.L.getD j (0, 0, 0)).2.1 + (R.L.getD j (0, 0, 0)).2.2))) (mark hd ud (1 + (R.L.getD j (0, 0, 0)).2.1 + (R.L.getD j (0, 0, 0)).2.2)) (ud + (1 + (R.L.getD j (0, 0, 0)).2.1 + (R.L.getD j (0, 0, 0)).2.2)) (Rd.lay (R.L.getD j (0, 0, 0)).1 (R.L.getD j (0, 0, 0)).2.1 (R.L.getD j (0, 0, 0)).2.2 (R.X.getD j []) F v') := by
  have hxs := os.xs j hj
  have hfl : fldsOf R.L j = (R.L.getD j (0, 0, 0)).2.1 + (R.L.getD j (0, 0, 0)).2.2 := rfl
  have hw := rs.heads j hj
  rw [rword_none hg] at hw
  refine r.lay o _ _ _ _ F v' (by rw [hxs, hfl]) hfit (patch_length _ _ _) (fun i hi => ?_) ?_ (fun i hi => ?_)
  · rw [patch_at _ _ _ _ (by omega), if_neg (by omega)]
  · rw [patch_at _ _ _ _ (by omega), runL_length, if_pos (by omega), Nat.sub_self, runL_at _ _ _ _ (by omega), Nat.add_zero, hw]
  · rw [patch_at _ _ _ _ (by omega), runL_length, if_pos (by omega), show ud + 1 + i - ud = 1 + i by omega, runL_at _ _ _ _ (by omega), ← Nat.add_assoc, rs.flds j i hj (by omega)]
end Go.Proofs.YtidfllgaeiopjaaGreat
namespace Go.Proofs.YtidfllgaeiopjaaGreat
open Go.ChangeShapes Go.WideShapes Go.ChangeAt Go.RowKit
set_option linter.unusedVariables false
set_option maxRecDepth 100000
set_option maxHeartbeats 2000000

def rspan (R : RefSt) (at' from' n : Int) : Nat :=
  if (robj R at').2.2.2 ≠ 0 then (robj R at').2.2.2
  else if 0 ≤ from' ∧ 0 ≤ n ∧ from' + n ≤ 8 * ((robj R at').2.2.1 : Nat) then 0 else 25
theorem Rel.span {ws : List Nat} {hs : List Bool} {used : Nat} {R : RefSt} (h : Rel ws hs used R) (o : RefOk R) (at' from' n : Int) : spanErr ws hs used at' from' n = rspan R at' from' n := by
  unfold spanErr rspan
  rw [h.obj o]
theorem rspan_zero {R : RefSt} {at' from' : Int} {n : Nat} (h : rspan R at' from' n = 0) : ∃ j f : Nat, j < R.L.length ∧ at' = (place R.L j : Nat) ∧ from' = f ∧ R.Gn.getD j none = none ∧ f + n ≤ 8 * (R.L.getD j (0, 0, 0)).2.2 ∧ robj R at' = ((R.L.getD j (0, 0, 0)).1, (R.L.getD j (0, 0, 0)).2.1, (R.L.getD j (0, 0, 0)).2.2, 0) := by
  unfold rspan at h
  by_cases h0 : (robj R at').2.2.2 = 0
  · rw [if_neg (by simpa using h0)] at h
    obtain ⟨j, hj, rfl, hg, e⟩ := robj_zero h0
    rw [e] at h
    dsimp only at h
    by_cases h1 : 0 ≤ from' ∧ 0 ≤ (n : Int) ∧ from' + n ≤ 8 * ((R.L.getD j (0, 0, 0)).2.2 : Nat)
    · obtain ⟨f, rfl⟩ := Int.eq_ofNat_of_zero_le h1.1
      exact ⟨j, f, hj, rfl, rfl, hg, by omega, e⟩
    · rw [if_neg h1] at h; cases h
  · rw [if_pos h0] at h
    exact absurd h h0
theorem p_setbytes {p bw bh : Nat} {ws : List Nat} {hs : List Bool} {used : Nat} {R : RefSt} {w : World} (h : Ar w p bw bh ws hs used) (r : Rel ws hs used R) (o : RefOk R) (at' from' : Int) (l : List Nat) (a : Option Addr) (cap : Nat) (hf1 : from' ≤ 9223372036854775807) (hf2 : -9223372036854775808 ≤ from') (hB : Bytes w a l) (hsl : Small l) :
    Calls Tryz.prog 168 #[.pointer (some ⟨p, 0, none⟩), .int .i64 at', .int .i64 from', .slice a l.length cap] w fun e w' => e = .returned (.int .i64 (rspan R at' from' l.length : Nat)) ∧ But [p, bw, bh] w w' ∧ ∃ ws', Ar w' p bw bh ws' hs used ∧ (rspan R at' from' l.length ≠ 0 → ws' = ws) ∧ (rspan R at' from' l.length = 0 → ∀ j f : Nat, j < R.L.length → at' = (place R.L j : Nat) → from' = f → Written ws ws' (place R.L j + 1 + (R.L.getD j (0, 0, 0)).2.1) (R.L.getD j (0, 0, 0)).2.2 f l) := by
  by_cases he : rspan R at' from' l.length = 0
  · obtain ⟨j, f, hj, rfl, rfl, hg, hn, e2⟩ := rspan_zero he
    have hob := (r.obj o (place R.L j : Nat)).trans e2
    refine (setbytes_yes (place R.L j) f l a cap w h (r.sound o).heads (by rw [hob]) (by rw [hob]; exact hn) hB hsl).mono ?_
    rintro e w' ⟨ws', rfl, hA, hb, hW⟩
    rw [hob] at hW
    refine ⟨by rw [he]; rfl, hb.over (by simp), ws', hA, fun hne => absurd he hne, fun _ j2 f2 hj2 e3 e4 => ?_⟩
    have := place_inj R.L (Int.ofNat.inj e3)
    subst this
    have := Int.ofNat.inj e4
    subst this
    exact hW
  · refine (setbytes_no at' from' a l.length cap w hf1 hf2 h (r.sound o).heads _ (r.span o at' from' l.length).symm he).mono ?_
    rintro e w' ⟨rfl, hb⟩
    exact ⟨rfl, But.of_below hb, ws, h.below hb, fun _ => rfl, fun h0 => absurd h0 he⟩
theorem fill_x {R : RefSt} (o : RefOk R) (j : Nat) (hj : j < R.L.length) (l : List Nat) : ∀ m, m ≤ (R.L.getD j (0, 0, 0)).2.2 → (R.fill j l m).X.length = R.X.length ∧ ((R.fill j l m).X.getD j []).length = fldsOf R.L j ∧ (∀ i, i ≠ j → (R.fill j l m).X.getD i [] = R.X.getD i []) ∧ ∀ k, ((R.fill j l m).X.getD j []).getD k 0 = if (R.L.getD j (0, 0, 0)).2.1 ≤ k ∧ k < (R.L.getD j (0, 0, 0)).2.1 + m then l.getD (k - (R.L.getD j (0, 0, 0)).2.1) 0 else (R.X.getD j []).getD k 0
  | 0, _ => ⟨rfl, o.xs j hj, fun _ _ => rfl, fun k => by rw [if_neg (by omega)]; rfl⟩
  | m + 1, hm => by
    obtain ⟨i1, i2, i3, i4⟩ := fill_x o j hj l m (by omega)
    have hlt : j < (R.fill j l m).X.length := by rw [i1, o.xl]; exact hj
    have hat := fun i => put_at (R.fill j l m) j ((R.L.getD j (0, 0, 0)).2.1 + m) (l.getD m 0) i hlt
    have e : R.fill j l (m + 1) = (R.fill j l m).put j ((R.L.getD j (0, 0, 0)).2.1 + m) (l.getD m 0) := rfl
    have hfl : fldsOf R.L j = (R.L.getD j (0, 0, 0)).2.1 + (R.L.getD j (0, 0, 0)).2.2 := rfl
    rw [e]
    refine ⟨by show ((R.fill j l m).X.set j _).length = _; rw [List.length_set]; exact i1, by rw [hat j, if_pos rfl, List.length_set]; exact i2, fun i hi => by rw [hat i, if_neg hi]; exact i3 i hi, fun k => ?_⟩
    rw [hat j, if_pos rfl, getD_set _ _ _ _ (by rw [i2]; omega), i4 k]
    by_cases e1 : k = (R.L.getD j (0, 0, 0)).2.1 + m
    · rw [if_pos e1, if_pos (by omega), e1]
      congr 1
      omega
    · rw [if_neg e1]
      by_cases e2 : (R.L.getD j (0, 0, 0)).2.1 ≤ k ∧ k < (R.L.getD j (0, 0, 0)).2.1 + m
      · rw [if_pos e2, if_pos (by omega)]
      · rw [if_neg e2, if_neg (by omega)]
theorem by_bytes (x y : Nat) (hx : x < 18446744073709551616) (hy : y < 18446744073709551616) (h : ∀ r, r < 8 → x / 2 ^ (8 * r) % 256 = y / 2 ^ (8 * r) % 256) : x = y := by
  have h0 := h 0 (by decide)
  have h1 := h 1 (by decide)
  have h2 := h 2 (by decide)
  have h3 := h 3 (by decide)
  have h4 := h 4 (by decide)
  have h5 := h 5 (by decide)
  have h6 := h 6 (by decide)
  have h7 := h 7 (by decide)
  simp only [Nat.mul_zero, Nat.pow_zero, Nat.div_one, Nat.mul_one, Nat.reduceMul, Nat.reducePow] at h0 h1 h2 h3 h4 h5 h6 h7
  omega
theorem wordAt_byte (L : List Nat) (h : Larder.SmallL L) (q r : Nat) (hr : r < 8) : Larder.wordAt L q / 2 ^ (8 * r) % 256 = L.getD (8 * q + r) 0 := by
  unfold Larder.wordAt
  rw [← Larder.pow256, Larder.leN_digit _ (fun c hc => Larder.small_mem h c (List.mem_of_mem_drop (List.mem_of_mem_take hc))), List.getD_eq_getElem?_getD, List.getElem?_take, if_pos hr, List.getElem?_drop, ← List.getD_eq_getElem?_getD]
theorem rawByte_at (R : RefSt) (j q : Nat) (hj : q < 8 * (R.L.getD j (0, 0, 0)).2.2) : (rbyN R j).getD q 0 = (rawsOf R j).getD (q / 8) 0 / 2 ^ (8 * (q % 8)) % 256 := by
  unfold rbyN
  rw [Larder.unpackL_get _ _ _ hj]
/-- SetBytes -/
theorem Rel.fill {ws ws' : List Nat} {hs : List Bool} {used : Nat} {R : RefSt} (h : Rel ws hs used R) (o : RefOk R) (j f : Nat) (l : List Nat) (hj : j < R.L.length) (hs1 : Small l) (hn : f + l.length ≤ 8 * (R.L.getD j (0, 0, 0)).2.2) (hsm : ∀ i, i < ws'.length → ws'.getD i 0 < 18446744073709551616)
    (hW : Written ws ws' (place R.L j + 1 + (R.L.getD j (0, 0, 0)).2.1) (R.L.getD j (0, 0, 0)).2.2 f l) : Rel ws' hs used (R.fill j (Larder.packL (patch (rbyN R j) f l)) (R.L.getD j (0, 0, 0)).2.2) := by
  obtain ⟨s1, s2, s3, s4, s5⟩ := fill_same R j (Larder.packL (patch (rbyN R j) f l)) (R.L.getD j (0, 0, 0)).2.2
  obtain ⟨i1, i2, i3, i4⟩ := fill_x o j hj (Larder.packL (patch (rbyN R j) f l)) _ (Nat.le_refl _)
  have hu := used_of R j hj
  have h2 := o.u2
  have h3 := h.sz
  have hus := h.us
  have hfl : fldsOf R.L j = (R.L.getD j (0, 0, 0)).2.1 + (R.L.getD j (0, 0, 0)).2.2 := rfl
  have hRL : (rbyN R j).length = 8 * (R.L.getD j (0, 0, 0)).2.2 := Larder.unpackL_length _ _
  have hps : Larder.SmallL (patch (rbyN R j) f l) := patch_below 256 _ _ _ (Larder.unpackL_small _ _) hs1
  refine ⟨by unfold RefSt.used; rw [s1]; exact hus, by rw [hW.len, s5]; exact h.sz, by rw [hW.len]; exact h.hl, ?_, fun i hi => ?_, fun i k hi hk => ?_, ?_⟩
  · rw [s1]; exact h.marks
  · rw [s1] at hi ⊢
    have e1 : rword (R.fill j (Larder.packL (patch (rbyN R j) f l)) (R.L.getD j (0, 0, 0)).2.2) i = rword R i := by unfold rword; rw [s1, s4]
    rw [e1, hW.out _ ?_]
    · exact h.heads i hi
    · rcases Nat.lt_trichotomy i j with q | q | q
      · have := place_lt R.L q; unfold wd at this; omega
      · subst q; omega
      · have := place_lt R.L q; unfold wd at this; omega
  · rw [s1] at hi hk ⊢
    by_cases e : i = j
    · subst e
      rw [i4 k]
      by_cases e2 : (R.L.getD i (0, 0, 0)).2.1 ≤ k ∧ k < (R.L.getD i (0, 0, 0)).2.1 + (R.L.getD i (0, 0, 0)).2.2
      · rw [if_pos e2]
        obtain ⟨q, hq⟩ : ∃ q, q = k - (R.L.getD i (0, 0, 0)).2.1 := ⟨_, rfl⟩
        have hq2 : q < (R.L.getD i (0, 0, 0)).2.2 := by omega
        rw [← hq, show place R.L i + 1 + k = place R.L i + 1 + (R.L.getD i (0, 0, 0)).2.1 + q by omega]
        have hwn : q < Larder.wn (patch (rbyN R i) f l).length := by rw [patch_length, hRL]; unfold Larder.wn; omega
        rw [Larder.packL_get _ _ hwn]
        refine by_bytes _ _ (hsm _ (by rw [hW.len]; omega)) (Larder.wordAt_lt (Larder.small_mem hps) q) (fun r hr => ?_)
        rw [wordAt_byte _ hps q r hr, patch_at _ _ _ _ (by rw [hRL]; omega)]
        have hb := hW.bytes (8 * q + r) (by omega)
        unfold rawByte at hb
        rw [show (8 * q + r) / 8 = q by omega, show (8 * q + r) % 8 = r by omega] at hb
        rw [hb]
        by_cases e3 : f ≤ 8 * q + r ∧ 8 * q + r < f + l.length
        · rw [if_pos e3, if_pos e3]
        · rw [if_neg e3, if_neg e3, rawByte_at R i _ (by omega), show (8 * q + r) / 8 = q by omega, show (8 * q + r) % 8 = r by omega]
          unfold rawsOf
          rw [getD_dropped, ← h.flds i _ hi (by omega), Nat.add_assoc]
      · rw [if_neg e2, hW.out _ (by omega)]
        exact h.flds i k hi hk
    · rw [i3 i e, hW.out _ ?_]
      · exact h.flds i k hi hk
      · have hfi : fldsOf R.L i = (R.L.getD i (0, 0, 0)).2.1 + (R.L.getD i (0, 0, 0)).2.2 := rfl
        rcases Nat.lt_trichotomy i j with q | q | q
        · have := place_lt R.L q; unfold wd at this; omega
        · exact absurd q e
        · have := place_lt R.L q; unfold wd at this; omega
  · rw [hW.out _ (by omega)]
    exact h.zero
end Go.Proofs.YtidfllgaeiopjaaGreat
namespace Go.Proofs.YtidfllgaeiopjaaGreat
open Go.ChangeShapes Go.WideShapes Go.ChangeAt Go.RowKit
set_option linter.unusedVariables false
set_option maxRecDepth 100000
set_option maxHeartbeats 2000000

end Go.Proofs.YtidfllgaeiopjaaGreat
namespace Go.Proofs.YtidfllgaeiopjaaGreat
open Go.ChangeShapes Go.WideShapes Go.ChangeAt Go.RowKit
set_option linter.unusedVariables false
set_option maxRecDepth 100000
set_option maxHeartbeats 2000000

end Go.Proofs.YtidfllgaeiopjaaGreat
namespace Go.Proofs.YtidfllgaeiopjaaGreat
open Go.ChangeShapes Go.WideShapes Go.ChangeAt Go.RowKit
set_option linter.unusedVariables false

/-- one object -/
structure Ob where
  kind : Nat
  refs : List Nat
  raws : List Nat
  there : Bool
  big : Bool
  at' : Nat

/-- a heap: its numbers, its objects (0 is none), the small ones in order of place, the large ones by slot (0: none), what the handles hold -/
structure Hp where
  limit : Nat
  half : Nat
  used : Nat
  large : Nat
  kept : Nat
  coll : Nat
  resz : Nat
  moved : Nat
  objs : List Ob
  small : List Nat
  slots : List Nat
  roots : List (Option Nat)

def ob0 : Ob := ⟨0, [], [], false, false, 0⟩
def ob (M : Hp) (i : Nat) : Ob := M.objs.getD i ob0
def shp (o : Ob) : Nat × Nat × Nat := (o.kind, o.refs.length, o.raws.length)
def osz (o : Ob) : Nat := 1 + o.refs.length + o.raws.length
def shapes (M : Hp) (l : List Nat) : List (Nat × Nat × Nat) := l.map fun i => shp (ob M i)
def topW : Nat := 9223372036854775808
def refW (M : Hp) (i : Nat) : Nat := if i = 0 then 0 else if (ob M i).big = true then topW + (ob M i).at' else (ob M i).at'
/-- where i lies when the objects of l lie one behind the other -/
def addr (M : Hp) (l : List Nat) (i : Nat) : Nat := place (shapes M l) (l.idxOf i)
def newRef (M : Hp) (cop : List Nat) (i : Nat) : Nat := if i = 0 then 0 else if (ob M i).big = true then topW + (ob M i).at' else addr M cop i
/-- the fields of an object whose first n refs lead to the new places -/
def mix (M : Hp) (cop : List Nat) (n i : Nat) : List Nat := ((ob M i).refs.take n).map (newRef M cop) ++ ((ob M i).refs.drop n).map (refW M) ++ (ob M i).raws

theorem shapes_length (M : Hp) (l : List Nat) : (shapes M l).length = l.length := List.length_map ..
theorem shapes_at (M : Hp) (l : List Nat) (j : Nat) (h : j < l.length) : (shapes M l).getD j (0, 0, 0) = shp (ob M (l.getD j 0)) := by
  unfold shapes
  rw [List.getD_eq_getElem?_getD, List.getElem?_map, List.getElem?_eq_getElem h]
  simp [List.getD_eq_getElem?_getD, List.getElem?_eq_getElem h]
theorem shapes_app (M : Hp) (a b : List Nat) : shapes M (a ++ b) = shapes M a ++ shapes M b := List.map_append ..
theorem wd_shp (o : Ob) : wd (shp o) = osz o := rfl
theorem addr_more (M : Hp) (l t : List Nat) (i : Nat) (h : i ∈ l) : addr M (l ++ t) i = addr M l i := by
  unfold addr
  rw [List.idxOf_append, if_pos h, shapes_app, place_prefix _ _ _ (by rw [shapes_length]; exact Nat.le_of_lt (List.idxOf_lt_length_of_mem h))]
theorem addr_last (M : Hp) (l : List Nat) (i : Nat) (h : i ∉ l) : addr M (l ++ [i]) i = place (shapes M l) l.length := by
  unfold addr
  rw [List.idxOf_append, if_neg h, shapes_app]
  simp only [List.idxOf_cons_self, Nat.zero_add]
  rw [place_prefix _ _ _ (by rw [shapes_length]; exact Nat.le_refl _)]
theorem addr_at (M : Hp) (l : List Nat) (hn : l.Nodup) (j : Nat) (h : j < l.length) : addr M l (l.getD j 0) = place (shapes M l) j := by
  unfold addr
  have : l.idxOf (l.getD j 0) = j := by
    rw [List.getD_eq_getElem?_getD, List.getElem?_eq_getElem h]
    exact List.Nodup.idxOf_getElem hn j h
  rw [this]
theorem newRef_more (M : Hp) (l t : List Nat) (i : Nat) (h : i = 0 ∨ (ob M i).big = true ∨ i ∈ l) : newRef M (l ++ t) i = newRef M l i := by
  unfold newRef
  by_cases h0 : i = 0
  · rw [if_pos h0, if_pos h0]
  · rw [if_neg h0, if_neg h0]
    by_cases hb : (ob M i).big = true
    · rw [if_pos hb, if_pos hb]
    · rw [if_neg hb, if_neg hb]
      rcases h with h | h | h
      · exact absurd h h0
      · exact absurd h hb
      · exact addr_more M l t i h
theorem mix_more (M : Hp) (l t : List Nat) (n i : Nat) (h : ∀ r ∈ (ob M i).refs.take n, r = 0 ∨ (ob M r).big = true ∨ r ∈ l) : mix M (l ++ t) n i = mix M l n i := by
  unfold mix
  rw [List.map_congr_left (fun r hr => newRef_more M l t r (h r hr))]
theorem mix_zero (M : Hp) (l : List Nat) (i : Nat) : mix M l 0 i = (ob M i).refs.map (refW M) ++ (ob M i).raws := by
  unfold mix; simp
theorem mix_all (M : Hp) (l : List Nat) (i : Nat) : mix M l (ob M i).refs.length i = (ob M i).refs.map (newRef M l) ++ (ob M i).raws := by
  unfold mix; simp
theorem mix_step (M : Hp) (l : List Nat) (n i : Nat) (h : n < (ob M i).refs.length) : (mix M l n i).set n (newRef M l ((ob M i).refs.getD n 0)) = mix M l (n + 1) i := by
  unfold mix
  have e1 : (((ob M i).refs.take n).map (newRef M l)).length = n := by simp; omega
  rw [List.append_assoc, List.append_assoc, List.set_append_right _ _ (by omega), e1, Nat.sub_self]
  rw [List.drop_eq_getElem_cons h, List.map_cons, List.cons_append, List.set_cons_zero, List.take_add_one, List.map_append, List.append_assoc]
  congr 1
  rw [List.getD_eq_getElem?_getD, List.getElem?_eq_getElem h]
  simp
theorem mix_at (M : Hp) (l : List Nat) (n i : Nat) (h : n < (ob M i).refs.length) : (mix M l n i).getD n 0 = refW M ((ob M i).refs.getD n 0) := by
  unfold mix
  have e1 : (((ob M i).refs.take n).map (newRef M l)).length = n := by simp; omega
  rw [List.append_assoc, List.getD_eq_getElem?_getD, List.getElem?_append_right (by omega), e1, Nat.sub_self]
  rw [List.drop_eq_getElem_cons h, List.map_cons, List.cons_append, List.getElem?_cons_zero, List.getD_eq_getElem?_getD, List.getElem?_eq_getElem h]
  rfl

/-- what a walk has come to: small ones, large ones, in order -/
structure Wk where
  cop : List Nat
  lin : List Nat

def reachW (M : Hp) (k : Wk) (i : Nat) : Wk :=
  if i = 0 ∨ i ∈ k.cop ∨ i ∈ k.lin then k else if (ob M i).big = true then ⟨k.cop, k.lin ++ [i]⟩ else ⟨k.cop ++ [i], k.lin⟩
def lookW (M : Hp) (k : Wk) (i : Nat) : Wk := (ob M i).refs.foldl (reachW M) k
def rootsW (M : Hp) (n : Nat) : Wk := (M.roots.take n).foldl (fun k r => match r with | none => k | some i => reachW M k i) ⟨[], []⟩

theorem reachW_mono (M : Hp) (k : Wk) (i : Nat) : (∃ t, (reachW M k i).cop = k.cop ++ t) ∧ ∃ t, (reachW M k i).lin = k.lin ++ t := by
  unfold reachW
  split
  · exact ⟨⟨[], by simp⟩, ⟨[], by simp⟩⟩
  · split
    · exact ⟨⟨[], by simp⟩, ⟨[i], rfl⟩⟩
    · exact ⟨⟨[i], rfl⟩, ⟨[], by simp⟩⟩

/-- one look: a state and how far both lines have been looked at -/
structure St where
  k : Wk
  a : Nat
  b : Nat

def stepW (M : Hp) (s : St) : Option St :=
  if s.a < s.k.cop.length then some ⟨lookW M s.k (s.k.cop.getD s.a 0), s.a + 1, s.b⟩
  else if s.b < s.k.lin.length then some ⟨lookW M s.k (s.k.lin.getD s.b 0), s.a, s.b + 1⟩ else none

inductive Star (M : Hp) : St → St → Prop
  | refl (s : St) : Star M s s
  | more {s t u : St} (h : Star M s t) (e : stepW M t = some u) : Star M s u

theorem Star.head {M : Hp} {s t : St} (h : Star M s t) : s = t ∨ ∃ u, stepW M s = some u ∧ Star M u t := by
  induction h with
  | refl => exact .inl rfl
  | more h e ih =>
    rcases ih with rfl | ⟨u, hu, hs⟩
    · exact .inr ⟨_, e, .refl _⟩
    · exact .inr ⟨u, hu, hs.more e⟩
theorem Star.cons {M : Hp} {s u t : St} (e : stepW M s = some u) (h : Star M u t) : Star M s t := by
  induction h with
  | refl => exact (Star.refl _).more e
  | more h e' ih => exact ih.more e'
theorem star_split {M : Hp} {s t u : St} (h : Star M s t) : Star M s u → Star M t u ∨ Star M u t := by
  induction h with
  | refl => exact fun k => .inl k
  | more h e ih =>
    intro k
    rcases ih k with q | q
    · rcases q.head with rfl | ⟨v, hv, hs⟩
      · exact .inr ((Star.refl _).more e)
      · rw [e] at hv; cases hv; exact .inl hs
    · exact .inr (q.more e)
/-- a walk has one end -/
theorem star_end {M : Hp} {s t u : St} (h : Star M s t) (ht : stepW M t = none) (k : Star M s u) (hu : stepW M u = none) : t = u := by
  rcases star_split h k with q | q
  · rcases q.head with rfl | ⟨v, hv, _⟩
    · rfl
    · rw [ht] at hv; cases hv
  · rcases q.head with rfl | ⟨v, hv, _⟩
    · rfl
    · rw [hu] at hv; cases hv

/-- sums over lists without doubles -/
theorem sum_sub (f : Nat → Nat) : ∀ (l m : List Nat), l.Nodup → (∀ x ∈ l, x ∈ m) → (l.map f).sum ≤ (m.map f).sum
  | [], m, _, _ => by simp
  | a :: l, m, hn, hs => by
    have hp := List.perm_cons_erase (hs a List.mem_cons_self)
    have e : (m.map f).sum = f a + ((m.erase a).map f).sum := by rw [(hp.map f).sum_nat]; rfl
    have hn' := List.nodup_cons.1 hn
    have ih := sum_sub f l (m.erase a) hn'.2 (fun x hx => (List.mem_erase_of_ne (by rintro rfl; exact hn'.1 hx)).2 (hs x (List.mem_cons_of_mem _ hx)))
    rw [e, List.map_cons, List.sum_cons]
    omega
theorem place_sum (L : List (Nat × Nat × Nat)) : ∀ n, n ≤ L.length → place L n = 1 + ((L.take n).map wd).sum
  | 0, _ => by simp [place]
  | n + 1, h => by
    have ih := place_sum L n (by omega)
    rw [place, ih, List.take_add_one, List.getElem?_eq_getElem h, List.map_append, List.sum_append, List.getD_eq_getElem?_getD, List.getElem?_eq_getElem h]
    simp
    omega
theorem place_all (M : Hp) (l : List Nat) : place (shapes M l) l.length = 1 + (l.map fun i => osz (ob M i)).sum := by
  rw [place_sum _ _ (by rw [shapes_length]; exact Nat.le_refl _), ← shapes_length M l, List.take_length]
  unfold shapes
  rw [List.map_map]
  rfl
theorem place_sub (M : Hp) (l m : List Nat) (hn : l.Nodup) (hs : ∀ x ∈ l, x ∈ m) : place (shapes M l) l.length ≤ place (shapes M m) m.length := by
  rw [place_all, place_all]
  have := sum_sub (fun i => osz (ob M i)) l m hn hs
  omega
end Go.Proofs.YtidfllgaeiopjaaGreat
namespace Go.Proofs.YtidfllgaeiopjaaGreat
open Go.ChangeShapes Go.WideShapes Go.ChangeAt Go.RowKit
set_option linter.unusedVariables false
set_option maxRecDepth 100000
set_option maxHeartbeats 1000000

theorem Tryz.info5' : (Tryz.prog.info? 5).map (fun i => (i.zero, i.size, i.bytes)) = some (some (.int .u8 0), 1, 1) := by kernel_rfl
theorem copy0_any {w : World} {x : Addr} {cap : Nat} (l : List Nat) (hl : l.length ≤ 140737488355328) (hB : Bytes w (some x) l) :
    Calls Tryz.prog 128 #[.slice (some x) l.length cap] w fun e w' => e = .returned (.slice (some ⟨w.heap.size, 0, none⟩) l.length l.length) ∧ Bytes w' (some ⟨w.heap.size, 0, none⟩) l ∧ Below w.heap.size w w' := by
  obtain ⟨n, hn⟩ : ∃ n, n = l.length := ⟨_, rfl⟩
  have m1 := fun w' => run_make_row' (P := Tryz.prog) 31 5 (.int .u8 0) 1 Tryz.underlying31 Tryz.info5' rfl .i64 .i64 n (by omega) (by omega) w'
  have HB := hide ((Below.refl w.heap.size w).alloc (Nat.le_refl _) (.cells (madeCells #[.int .u8 0] n) 5))
  have HG := hide (heap_alloc_new w (.cells (madeCells #[.int .u8 0] n) 5))
  have HW : Hid (∀ j v, ((List.range n).map fun k => Value.int .u8 (l.getD k 0 : Nat))[j]? = some v → (w.alloc (.cells (madeCells #[.int .u8 0] n) 5)).cell? (x.add j) = some v) := hide (fun j v hj => by
    have hjl : j < n := by
      have := (List.getElem?_eq_some_iff.1 hj).1
      simpa using this
    rw [List.getElem?_map, List.getElem?_range hjl] at hj
    rcases hB with h | ⟨b, off, h, hb, hc⟩
    · subst h; simp at hn; omega
    · cases h
      have e : (⟨b, off, none⟩ : Addr).add j = ⟨b, off + j, none⟩ := by unfold Addr.add; split <;> simp_all
      rw [e, (unhide HB).cell (p := ⟨b, off + j, none⟩) hb, hc j (by omega)]
      exact hj)
  obtain ⟨i0, hi, hy0, hy1, hy2⟩ := info_parts Tryz.info5'
  have hcopy : ∃ w2, (Builtin.copy_ #[31, 31] 3 #[.slice (some ⟨w.heap.size, 0, none⟩) n n, .slice (some x) n cap]).run Tryz.prog (w.alloc (.cells (madeCells #[.int .u8 0] n) 5)) = .ok (goInt n) w2 ∧ Hid (∀ j, j < n → w2.cell? ⟨w.heap.size, j, none⟩ = some (.int .u8 (l.getD j 0 : Nat))) ∧ Below w.heap.size w w2 ∧ w2.heap.size = w.heap.size + 1 := by
    obtain ⟨cs, hcs⟩ : ∃ cs, cs = (List.range n).map fun k => Value.int .u8 (l.getD k 0 : Nat) := ⟨_, rfl⟩
    have hlen : cs.length = n := by rw [hcs]; simp
    rw [← hcs] at HW
    have hcp := run_copy_row (P := Tryz.prog) (w.alloc (.cells (madeCells #[.int .u8 0] n) 5)) 31 31 3 5 w.heap.size 0 n n x n cap (madeCells #[.int .u8 0] n) 5 cs Tryz.underlying31 (by rw [hi]; simp [hy1]) (unhide HG) (by rw [hlen]; show n = min _ _; omega) (unhide HW) (by rw [hlen]; simp [madeCells]) (fun v hv => by rw [hcs] at hv; obtain ⟨k, _, rfl⟩ := List.mem_map.1 hv; rfl)
    rw [hlen] at hcp
    refine ⟨_, hcp, hide (fun j hj => ?_), below_setRow (unhide HB) (Nat.le_refl _) _, by simp [World.setRow]⟩
    have hrow := setRow_heap (w.alloc (.cells (madeCells #[.int .u8 0] n) 5)) w.heap.size _ ((madeCells #[.int .u8 0] n).toList.take 0 ++ cs ++ (madeCells #[.int .u8 0] n).toList.drop (0 + n)).toArray 5 (0, 0) (unhide HG)
    simp only [World.cell?, hrow]
    rw [List.take_zero, List.nil_append]
    simp [List.getElem?_append, hj, hcs]
  obtain ⟨w2, hcp, HR, hbr, hsz⟩ := hcopy
  clear hB
  rw [← hn]
  have HN := hide hn
  clear hn hl
  go_enter Tryz.func128, Tryz.ntmps128
  go_wp2
  go_ret
  refine ⟨rfl, .inr ⟨w.heap.size, 0, rfl, by omega, fun i hi' => ?_⟩, hbr⟩
  rw [Nat.zero_add]
  exact unhide HR i (by rw [unhide HN]; exact hi')

theorem twin_any {w : World} (a : Option Addr) (cap : Nat) (l : List Nat) (hl : l.length ≤ 140737488355328) (hB : Bytes w a l) (hnil : a = none → cap = 0) :
    Calls Tryz.prog 94 #[.slice a l.length cap] w fun e w' => ∃ a' cap', e = .returned (.slice a' l.length cap') ∧ Bytes w' a' l ∧ Below w.heap.size w w' := by
  cases a with
  | none =>
    have hl0 : l = [] := by
      rcases hB with h | ⟨b, off, h, _⟩
      · exact h
      · cases h
    subst hl0
    obtain rfl := hnil rfl
    have e1 := fun w' => Lib.run_eql_slice_nil (P := Tryz.prog) w' 31 5 none 0 0 0 0 Tryz.underlying31
    simp only [Option.isNone_none] at e1
    go_enter Tryz.func94, Tryz.ntmps94
    go_wp2
    go_ret
    exact ⟨none, ⟨0, rfl⟩, .inl rfl, Below.refl _ _⟩
  | some x =>
    have H1 := hide (copy0_any (cap := cap) l hl hB)
    clear hB hnil
    obtain ⟨n, hn⟩ : ∃ n, l.length = n := ⟨_, rfl⟩
    rw [hn] at H1 ⊢
    have e1 := fun w' => Lib.run_eql_slice_nil (P := Tryz.prog) w' 31 5 (some x) n cap 0 0 Tryz.underlying31
    simp only [Option.isNone_some] at e1
    go_enter Tryz.func94, Tryz.ntmps94
    go_wp2_with fail
    refine (unhide H1).mono ?_
    rintro e w1 ⟨rfl, h1, h2⟩
    go_wp2
    go_ret
    exact ⟨_, _, rfl, h1, h2⟩
end Go.Proofs.YtidfllgaeiopjaaGreat
namespace Go.Proofs.YtidfllgaeiopjaaGreat
open Go.ChangeShapes Go.WideShapes Go.ChangeAt Go.RowKit
set_option linter.unusedVariables false
set_option maxRecDepth 100000
set_option maxHeartbeats 2000000

def nv (l : List Nat) (j : Nat) : Value := .int .i64 (l.getD j 0 : Nat)
def gB (v : Value) : List Nat := (v.ownBlock).toList

theorem nv_int (l : List Nat) (k : Nat) (h : k < l.length) : l.getD k 0 = l[k] := by
  rw [List.getD_eq_getElem?_getD, List.getElem?_eq_getElem h]; rfl
theorem less_any {w : World} {v : Value} {l : List Nat} (h : Line w 3 v l.length (nv l)) (i j : Nat) (hi : i < l.length) (hj : j < l.length) :
    Calls Tryz.prog 176 #[v, .int .i64 (i : Nat), .int .i64 (j : Nat)] w fun e w' => e = .returned (.bool (decide (l.getD i 0 < l.getD j 0))) ∧ Still w w' := by
  obtain ⟨g, cap, rfl, hg, hc⟩ := h.at (by omega)
  have c1 := (hc i hi).1
  have c2 := (hc j hj).1
  unfold nv at c1 c2
  clear h hc
  generalize l.getD i 0 = x at *
  generalize l.getD j 0 = y at *
  go_enter Tryz.func176, Tryz.ntmps176
  go_wp2
  go_region
  all_goals go_wp2
  all_goals go_ret
  all_goals (refine ⟨?_, ?_⟩)
  all_goals first | exact ⟨rfl, rfl, rfl, rfl⟩ | (congr 2; simp) | rfl
theorem swap_any {w : World} {v : Value} {l : List Nat} (h : Line w 3 v l.length (nv l)) (i j : Nat) (hi : i < l.length) (hj : j < l.length) :
    Calls Tryz.prog 177 #[v, .int .i64 (i : Nat), .int .i64 (j : Nat)] w fun e w' => e = .returned (.tuple #[]) ∧ Line w' 3 v l.length (nv (swp l i j)) ∧ But (gB v) w w' := by
  obtain ⟨g, cap, rfl, hg, hc⟩ := h.at (by omega)
  have c1 := (hc i hi).1
  have c2 := (hc j hj).1
  have f1 := (hc i hi).2
  have f2 := (hc j hj).2
  unfold nv at c1 c2
  have HL : Hid (Line ((w.setCell ⟨g, i, none⟩ (.int .i64 (l.getD j 0 : Nat))).setCell ⟨g, j, none⟩ (.int .i64 (l.getD i 0 : Nat))) 3 (.slice (some ⟨g, 0, none⟩) l.length cap) l.length (nv (swp l i j))) := hide (by
    refine ((h.put hg i (.int .i64 (l.getD j 0 : Nat)) hi).put hg j (.int .i64 (l.getD i 0 : Nat)) hj).congr (fun k hk => ?_)
    have e := congrFun (swp_get l i j hi hj) k
    unfold swf at e
    dsimp only at e
    unfold nv
    rw [e]
    by_cases e1 : k = j
    · rw [if_pos e1, if_pos e1]
    · rw [if_neg e1, if_neg e1]
      by_cases e2 : k = i
      · rw [if_pos e2, if_pos e2]
      · rw [if_neg e2, if_neg e2])
  have HB : Hid (But (gB (.slice (some ⟨g, 0, none⟩) l.length cap)) w ((w.setCell ⟨g, i, none⟩ (.int .i64 (l.getD j 0 : Nat))).setCell ⟨g, j, none⟩ (.int .i64 (l.getD i 0 : Nat))).drew) := hide
    ((((But.refl _ _).set ⟨g, i, none⟩ (by simp [gB, Value.ownBlock]) _).set ⟨g, j, none⟩ (by simp [gB, Value.ownBlock]) _).trans (But.of_below (Below.refl _ _).drew))
  have HE : Hid (∀ W : World, Line W 3 (.slice (some ⟨g, 0, none⟩) l.length cap) l.length (nv (swp l i j)) → Line W.drew 3 (.slice (some ⟨g, 0, none⟩) l.length cap) l.length (nv (swp l i j))) := hide (fun W h => h.same (fun _ _ => rfl))
  clear hc h
  generalize nv (swp l i j) = F at *
  by_cases eij : i = j
  · subst eij
    generalize l.getD i 0 = x at *
    go_enter Tryz.func177, Tryz.ntmps177
    go_wp2
    go_region
    all_goals go_wp2
    all_goals go_end0
    all_goals exact ⟨rfl, unhide HE _ (unhide HL), unhide HB⟩
  · generalize l.getD i 0 = x at *
    generalize l.getD j 0 = y at *
    go_enter Tryz.func177, Tryz.ntmps177
    go_wp2
    go_region
    all_goals go_wp2
    all_goals go_end0
    all_goals exact ⟨rfl, unhide HE _ (unhide HL), unhide HB⟩
theorem less_raw {w : World} {v : Value} {l : List Nat} (h : Line w 3 v l.length (nv l)) {i j : Nat} {I J : Int} (hI : I = (i : Nat)) (hJ : J = (j : Nat)) (hi : i < l.length) (hj : j < l.length) :
    ∀ w1, Still w w1 → Calls Tryz.prog 176 #[v, .int .i64 I, .int .i64 J] w1 fun e w' => e = .returned (.bool (decide (l.getD i 0 < l.getD j 0))) ∧ Still w1 w' := fun w1 hs => by
  rw [hI, hJ]; exact less_any (h.same (fun g _ => by rw [hs.heap])) i j hi hj
theorem swap_raw {w : World} {v : Value} {l : List Nat} (h : Line w 3 v l.length (nv l)) {i j : Nat} {I J : Int} (hI : I = (i : Nat)) (hJ : J = (j : Nat)) (hi : i < l.length) (hj : j < l.length) :
    ∀ w1, Still w w1 → Calls Tryz.prog 177 #[v, .int .i64 I, .int .i64 J] w1 fun e w' => e = .returned (.tuple #[]) ∧ Line w' 3 v l.length (nv (swp l i j)) ∧ But (gB v) w1 w' := fun w1 hs => by
  rw [hI, hJ]; exact swap_any (h.same (fun g _ => by rw [hs.heap])) i j hi hj
theorem len_any (w : World) (a : Option Addr) (n cap : Nat) : Calls Tryz.prog 175 #[.slice a n cap] w fun e w' => e = .returned (.int .i64 (n : Nat)) ∧ w' = w := by
  go_enter Tryz.func175, Tryz.ntmps175
  go_wp2
  go_ret
  exact ⟨rfl, rfl⟩
theorem m_less0 (W : World) (b o : Nat) : (method 338 153 (.pointer (some ⟨b, o, none⟩)) "Less").run Tryz.prog W = ((load ⟨b, o, none⟩) >>= fun v => pure (176, v)).run Tryz.prog W := by kernel_rfl
theorem m_swap0 (W : World) (b o : Nat) : (method 338 153 (.pointer (some ⟨b, o, none⟩)) "Swap").run Tryz.prog W = ((load ⟨b, o, none⟩) >>= fun v => pure (177, v)).run Tryz.prog W := by kernel_rfl
theorem m_len0 (W : World) (b o : Nat) : (method 338 153 (.pointer (some ⟨b, o, none⟩)) "Len").run Tryz.prog W = ((load ⟨b, o, none⟩) >>= fun v => pure (175, v)).run Tryz.prog W := by kernel_rfl
theorem m_push (W : World) (b o : Nat) : (method 338 153 (.pointer (some ⟨b, o, none⟩)) "Push").run Tryz.prog W = .ok (179, .pointer (some ⟨b, o, none⟩)) W := by kernel_rfl
theorem m_pop (W : World) (b o : Nat) : (method 338 153 (.pointer (some ⟨b, o, none⟩)) "Pop").run Tryz.prog W = .ok (178, .pointer (some ⟨b, o, none⟩)) W := by kernel_rfl
theorem m_less (W : World) (b o : Nat) (v : Value) (h : W.cell? ⟨b, o, none⟩ = some v) : (method 338 153 (.pointer (some ⟨b, o, none⟩)) "Less").run Tryz.prog W = .ok (176, v) W := by
  rw [m_less0, Sem.run_bind, run_load, h]; rfl
theorem m_swap (W : World) (b o : Nat) (v : Value) (h : W.cell? ⟨b, o, none⟩ = some v) : (method 338 153 (.pointer (some ⟨b, o, none⟩)) "Swap").run Tryz.prog W = .ok (177, v) W := by
  rw [m_swap0, Sem.run_bind, run_load, h]; rfl
theorem m_len (W : World) (b o : Nat) (v : Value) (h : W.cell? ⟨b, o, none⟩ = some v) : (method 338 153 (.pointer (some ⟨b, o, none⟩)) "Len").run Tryz.prog W = .ok (175, v) W := by
  rw [m_len0, Sem.run_bind, run_load, h]; rfl
theorem not_gB {v : Value} {b : Nat} (h : v.ownBlock ≠ some b) : b ∉ gB v := by
  unfold gB
  cases hv : v.ownBlock with
  | none => simp
  | some g => simp; rintro rfl; exact h hv
theorem up_any {b o : Nat} {v : Value} {l : List Nat} (w : World) (hcell : w.cell? ⟨b, o, none⟩ = some v) (hL : Line w 3 v l.length (nv l)) (hap : v.ownBlock ≠ some b) (hlen : l.length ≤ 1099511627776) (j : Nat) (hj : j < l.length) (hU : UpI l.length (fun k => l.getD k 0) j) :
    Calls Tryz.prog 129 #[.iface 153 (.pointer (some ⟨b, o, none⟩)), .int .i64 (j : Nat)] w fun e w' => e = .returned (.tuple #[]) ∧ ∃ l', l'.Perm l ∧ HO l.length (fun k => l'.getD k 0) ∧ Line w' 3 v l.length (nv l') ∧ But (gB v) w w' := by
  have hbw : b < w.heap.size := by have := block_lt_of_cell hcell; simpa using this
  have hng := not_gB hap
  go_enter Tryz.func129, Tryz.ntmps129
  go_wp2_with fail
  go_loopw [1] (fun jv wr => ∃ (k : Nat) (l' : List Nat), jv = .int .i64 (k : Nat) ∧ k < l.length ∧ l'.Perm l ∧ UpI l.length (fun q => l'.getD q 0) k ∧ Line wr 3 v l.length (nv l') ∧ wr.cell? ⟨b, o, none⟩ = some v ∧ But (gB v) w wr) (fun jv _ => (intOf jv).toNat)
  case atStart => exact ⟨j, l, rfl, hj, List.Perm.refl _, hU, hL, hcell, But.refl _ _⟩
  case round =>
    obtain ⟨k, l', rfl, hk, hp, hu, hl, hc, hb⟩ := hrel
    clear hL hcell hU
    have hll : l'.length = l.length := hp.length_eq
    by_cases k0 : k = 0
    · subst k0
      have HF := hide (show ∃ l', l'.Perm l ∧ HO l.length (fun k => l'.getD k 0) ∧ Line wr 3 v l.length (nv l') ∧ But (gB v) w wr from ⟨l', hp, hu.done (.inl rfl), hl, hb⟩)
      clear hp hu hl hb hll
      go_wp2_with fail
      go_end0
      exact ⟨rfl, unhide HF⟩
    · obtain ⟨i, hi⟩ : ∃ i, (k - 1) / 2 = i := ⟨_, rfl⟩
      have e0 : ((k : Int) - 1) / 2 = ((i : Nat) : Int) := by omega
      have hik : i < k := by omega
      have HLs := hide (less_any (w := wr) (v := v) (l := l') (by rw [hll]; exact hl) k i (by omega) (by omega))
      have HSw : Hid (∀ w1, Still wr w1 → Calls Tryz.prog 177 #[v, .int .i64 (i : Nat), .int .i64 (k : Nat)] w1 fun e w' => e = .returned (.tuple #[]) ∧ Line w' 3 v l.length (nv (swp l' i k)) ∧ But (gB v) w1 w') := hide (fun w1 hs => by
        have := swap_any (w := w1) (v := v) (l := l') (by rw [hll]; exact hl.same (fun g _ => by rw [hs.heap])) i k (by omega) (by omega)
        rw [hll] at this; exact this)
      have HD : Hid (¬ l'.getD k 0 < l'.getD i 0 → HO l.length (fun k => l'.getD k 0)) := hide (fun h => hu.done (.inr (by rw [hi]; omega)))
      have HU : Hid (l'.getD k 0 < l'.getD i 0 → UpI l.length (fun q => (swp l' i k).getD q 0) i) := hide (fun h => by
        have := hu.step (by omega) hk (by rw [hi]; exact h)
        rw [hi] at this
        rw [swp_get l' i k (by omega) (by omega)]; exact this)
      have HP : Hid ((swp l' i k).Perm l) := hide ((swp_perm l' i k (by omega) (by omega)).trans hp)
      have HK := hide (And.intro hl (And.intro hp hb))
      have hm := m_less wr b o v hc
      clear hu hl hp hb hll hi
      go_wp2_with fail
      refine (unhide HLs).mono ?_
      clear HLs hm
      rintro e w1 ⟨rfl, hst⟩
      have hc1 : w1.cell? ⟨b, o, none⟩ = some v := (hst.cell _).trans hc
      have hm := m_swap w1 b o v hc1
      have HT := hide hst
      clear hc hst
      by_cases hlt : l'.getD k 0 < l'.getD i 0
      · have hd : decide (l'.getD k 0 < l'.getD i 0) = true := decide_eq_true hlt
        have HU2 := hide (unhide HU hlt)
        rw [hd]
        clear HU HD hlt hd
        go_wp2_with fail
        refine (unhide HSw w1 (unhide HT)).mono ?_
        clear HSw hm
        rintro e w2 ⟨rfl, hl2, hb2⟩
        have hb02 : But (gB v) w w2 := ((unhide HK).2.2.trans (But.of_below (unhide HT).below)).trans hb2
        have hc2 : w2.cell? ⟨b, o, none⟩ = some v := (hb2.cell (q := ⟨b, o, none⟩) (by have := block_lt_of_cell hc1; simpa using this) hng).trans hc1
        have HR := hide (show ∃ (k : Nat) (l' : List Nat), (Value.int .i64 (i : Nat)) = .int .i64 (k : Nat) ∧ k < l.length ∧ l'.Perm l ∧ UpI l.length (fun q => l'.getD q 0) k ∧ Line w2 3 v l.length (nv l') ∧ w2.cell? ⟨b, o, none⟩ = some v ∧ But (gB v) w w2 from ⟨i, swp l' i k, rfl, by omega, unhide HP, unhide HU2, hl2, hc2, hb02⟩)
        clear hl2 hb2 hb02 hc2 HU2 HP HK hc1
        go_wp2
        go_roundw
        case rel => exact unhide HR
        case measure => simp [intOf]; omega
      · have hd : decide (l'.getD k 0 < l'.getD i 0) = false := decide_eq_false hlt
        have HF := hide (show ∃ l', l'.Perm l ∧ HO l.length (fun k => l'.getD k 0) ∧ Line w1 3 v l.length (nv l') ∧ But (gB v) w w1 from ⟨l', (unhide HK).2.1, unhide HD hlt, (unhide HK).1.same (fun g _ => by rw [(unhide HT).heap]), (unhide HK).2.2.trans (But.of_below (unhide HT).below)⟩)
        rw [hd]
        clear HU HD hlt hd HSw hm HK HT
        go_wp2_with fail
        go_end0
        exact ⟨rfl, unhide HF⟩
def BoolEnd (e : Ending) : Prop := ∃ u, e = .returned (.bool u)
theorem down_any {b o : Nat} {v : Value} {l : List Nat} (w : World) (hcell : w.cell? ⟨b, o, none⟩ = some v) (hL : Line w 3 v l.length (nv l)) (hap : v.ownBlock ≠ some b) (hlen : l.length ≤ 1099511627776) (i0 n : Nat) (hn : n ≤ l.length) (hi0 : i0 < l.length) (hU : DnI n (fun k => l.getD k 0) i0) :
    Calls Tryz.prog 145 #[.iface 153 (.pointer (some ⟨b, o, none⟩)), .int .i64 (i0 : Nat), .int .i64 (n : Nat)] w fun e w' => BoolEnd e ∧ ∃ l', l'.Perm l ∧ (∀ q, n ≤ q → l'.getD q 0 = l.getD q 0) ∧ HO n (fun k => l'.getD k 0) ∧ Line w' 3 v l.length (nv l') ∧ But (gB v) w w' := by
  have hbw : b < w.heap.size := by have := block_lt_of_cell hcell; simpa using this
  have hng := not_gB hap
  go_enter Tryz.func145, Tryz.ntmps145
  go_wp2_with fail
  go_loopw [7] (fun jv wr => ∃ (k : Nat) (l' : List Nat), jv = .int .i64 (k : Nat) ∧ k < l.length ∧ l'.Perm l ∧ (∀ q, n ≤ q → l'.getD q 0 = l.getD q 0) ∧ DnI n (fun q => l'.getD q 0) k ∧ Line wr 3 v l.length (nv l') ∧ wr.cell? ⟨b, o, none⟩ = some v ∧ But (gB v) w wr) (fun jv _ => n + 1 - (intOf jv).toNat)
  case atStart => exact ⟨i0, l, rfl, hi0, List.Perm.refl _, fun _ _ => rfl, hU, hL, hcell, But.refl _ _⟩
  case round =>
    obtain ⟨k, l', rfl, hk, hp, hsame, hu, hl, hc, hb⟩ := hrel
    clear hL hcell hU
    have hll : l'.length = l.length := hp.length_eq
    by_cases ha : n ≤ 2 * k + 1
    · have HF := hide (show ∃ l', l'.Perm l ∧ (∀ q, n ≤ q → l'.getD q 0 = l.getD q 0) ∧ HO n (fun k => l'.getD k 0) ∧ Line wr 3 v l.length (nv l') ∧ But (gB v) w wr from ⟨l', hp, hsame, hu.done (fun c h1 h2 h3 => by omega), hl, hb⟩)
      clear hp hsame hu hl hb hll
      go_wp2_with fail
      go_ret
      exact ⟨⟨_, rfl⟩, unhide HF⟩
    · have hlr : Line wr 3 v l'.length (nv l') := by rw [hll]; exact hl
      by_cases h2 : 2 * k + 2 < n
      · have HL1 := hide (less_raw (i := 2 * k + 1 + 1) (I := 2 * (k : Int) + 1 + 1) (j := 2 * k + 1) (J := 2 * (k : Int) + 1) hlr (by omega) (by omega) (by omega) (by omega))
        have hm := m_less wr b o v hc
        go_wp2_with fail
        refine (unhide HL1 wr (Still.refl _)).mono ?_
        clear HL1 hm
        rintro e w4 ⟨rfl, hst4⟩
        have hcW : w4.cell? ⟨b, o, none⟩ = some v := (hst4.cell _).trans hc
        have hlW : Line w4 3 v l'.length (nv l') := hlr.same (fun g _ => by rw [hst4.heap])
        have hbW : But (gB v) w w4 := hb.trans (But.of_below hst4.below)
        clear hl hlr hb hc hst4
        by_cases h3 : l'.getD (2 * k + 1 + 1) 0 < l'.getD (2 * k + 1) 0
        · have hd3 : decide (l'.getD (2 * k + 1 + 1) 0 < l'.getD (2 * k + 1) 0) = true := decide_eq_true h3
          have hmin : ∀ c, 0 < c → c < n → (c - 1) / 2 = k → l'.getD (2 * k + 1 + 1) 0 ≤ l'.getD c 0 := fun c c1 c2 c3 => by
            rcases (by omega : c = 2 * k + 1 ∨ c = 2 * k + 1 + 1) with e | e <;> rw [e] <;> omega
          rw [hd3]
          clear hd3 h3
          have HL2 := hide (less_raw (i := 2 * k + 1 + 1) (I := 2 * (k : Int) + 1 + 1) (j := k) (J := (k : Int)) hlW (by omega) (by omega) (by omega) (by omega))
          have HSw := hide (swap_raw (i := k) (I := (k : Int)) (j := 2 * k + 1 + 1) (J := 2 * (k : Int) + 1 + 1) hlW (by omega) (by omega) (by omega) (by omega))
          have hm := m_less w4 b o v hcW
          go_wp2_with fail
          refine (unhide HL2 w4 (Still.refl _)).mono ?_
          clear HL2 hm
          rintro e w5 ⟨rfl, hst5⟩
          have hc5 : w5.cell? ⟨b, o, none⟩ = some v := (hst5.cell _).trans hcW
          have hm := m_swap w5 b o v hc5
          by_cases hlt : l'.getD (2 * k + 1 + 1) 0 < l'.getD k 0
          · have hd : decide (l'.getD (2 * k + 1 + 1) 0 < l'.getD k 0) = true := decide_eq_true hlt
            rw [hd]
            clear hd
            have HU2 : Hid (DnI n (fun q => (swp l' k (2 * k + 1 + 1)).getD q 0) (2 * k + 1 + 1)) := hide (by
              rw [swp_get l' k (2 * k + 1 + 1) (by omega) (by omega)]
              exact hu.step (by omega) (by omega) (by omega) hmin hlt)
            have HQ : Hid (∀ q, n ≤ q → (swp l' k (2 * k + 1 + 1)).getD q 0 = l.getD q 0) := hide (fun q hq => by
              have := congrFun (swp_get l' k (2 * k + 1 + 1) (by omega) (by omega)) q
              rw [this, swf_o _ _ _ _ (by omega) (by omega)]; exact hsame q hq)
            have HP : Hid ((swp l' k (2 * k + 1 + 1)).Perm l) := hide ((swp_perm l' k (2 * k + 1 + 1) (by omega) (by omega)).trans hp)
            have HB5 : Hid (But (gB v) w w5) := hide (hbW.trans (But.of_below hst5.below))
            have HSw2 := hide (unhide HSw w5 hst5)
            rw [hll] at HSw2
            clear HSw hu hp hbW hlW hst5 hcW hlt hmin hsame hll
            go_wp2_with fail
            refine (unhide HSw2).mono ?_
            clear HSw2 hm
            rintro e w6 ⟨rfl, hl6, hb6⟩
            have HR := hide (show ∃ (k' : Nat) (l' : List Nat), (Value.int .i64 (2 * (k : Int) + 1 + 1)) = .int .i64 (k' : Nat) ∧ k' < l.length ∧ l'.Perm l ∧ (∀ q, n ≤ q → l'.getD q 0 = l.getD q 0) ∧ DnI n (fun q => l'.getD q 0) k' ∧ Line w6 3 v l.length (nv l') ∧ w6.cell? ⟨b, o, none⟩ = some v ∧ But (gB v) w w6 from ⟨2 * k + 1 + 1, swp l' k (2 * k + 1 + 1), by congr 1, by omega, unhide HP, unhide HQ, unhide HU2, hl6, (hb6.cell (q := ⟨b, o, none⟩) (by have := block_lt_of_cell hc5; simpa using this) hng).trans hc5, (unhide HB5).trans hb6⟩)
            clear hl6 hb6 HU2 HQ HP HB5 hc5
            go_wp2
            go_roundw
            case rel => exact unhide HR
            case measure => simp [intOf]; omega
          · have hd : decide (l'.getD (2 * k + 1 + 1) 0 < l'.getD k 0) = false := decide_eq_false hlt
            have HF := hide (show ∃ l', l'.Perm l ∧ (∀ q, n ≤ q → l'.getD q 0 = l.getD q 0) ∧ HO n (fun k => l'.getD k 0) ∧ Line w5 3 v l.length (nv l') ∧ But (gB v) w w5 from ⟨l', hp, hsame, hu.done (fun c h1 h2 h3 => Nat.le_trans (Nat.le_of_not_lt hlt) (hmin c h1 h2 h3)), by rw [← hll]; exact hlW.same (fun g _ => by rw [hst5.heap]), hbW.trans (But.of_below hst5.below)⟩)
            rw [hd]
            clear hd HSw hm hu hp hbW hlW hst5 hcW hlt hmin hsame hll hc5
            go_wp2_with fail
            go_ret
            exact ⟨⟨_, rfl⟩, unhide HF⟩

        · have hd3 : decide (l'.getD (2 * k + 1 + 1) 0 < l'.getD (2 * k + 1) 0) = false := decide_eq_false h3
          have hmin : ∀ c, 0 < c → c < n → (c - 1) / 2 = k → l'.getD (2 * k + 1) 0 ≤ l'.getD c 0 := fun c c1 c2 c3 => by
            rcases (by omega : c = 2 * k + 1 ∨ c = 2 * k + 1 + 1) with e | e <;> rw [e] <;> omega
          rw [hd3]
          clear hd3 h3
          have HL2 := hide (less_raw (i := 2 * k + 1) (I := 2 * (k : Int) + 1) (j := k) (J := (k : Int)) hlW (by omega) (by omega) (by omega) (by omega))
          have HSw := hide (swap_raw (i := k) (I := (k : Int)) (j := 2 * k + 1) (J := 2 * (k : Int) + 1) hlW (by omega) (by omega) (by omega) (by omega))
          have hm := m_less w4 b o v hcW
          go_wp2_with fail
          refine (unhide HL2 w4 (Still.refl _)).mono ?_
          clear HL2 hm
          rintro e w5 ⟨rfl, hst5⟩
          have hc5 : w5.cell? ⟨b, o, none⟩ = some v := (hst5.cell _).trans hcW
          have hm := m_swap w5 b o v hc5
          by_cases hlt : l'.getD (2 * k + 1) 0 < l'.getD k 0
          · have hd : decide (l'.getD (2 * k + 1) 0 < l'.getD k 0) = true := decide_eq_true hlt
            rw [hd]
            clear hd
            have HU2 : Hid (DnI n (fun q => (swp l' k (2 * k + 1)).getD q 0) (2 * k + 1)) := hide (by
              rw [swp_get l' k (2 * k + 1) (by omega) (by omega)]
              exact hu.step (by omega) (by omega) (by omega) hmin hlt)
            have HQ : Hid (∀ q, n ≤ q → (swp l' k (2 * k + 1)).getD q 0 = l.getD q 0) := hide (fun q hq => by
              have := congrFun (swp_get l' k (2 * k + 1) (by omega) (by omega)) q
              rw [this, swf_o _ _ _ _ (by omega) (by omega)]; exact hsame q hq)
            have HP : Hid ((swp l' k (2 * k + 1)).Perm l) := hide ((swp_perm l' k (2 * k + 1) (by omega) (by omega)).trans hp)
            have HB5 : Hid (But (gB v) w w5) := hide (hbW.trans (But.of_below hst5.below))
            have HSw2 := hide (unhide HSw w5 hst5)
            rw [hll] at HSw2
            clear HSw hu hp hbW hlW hst5 hcW hlt hmin hsame hll
            go_wp2_with fail
            refine (unhide HSw2).mono ?_
            clear HSw2 hm
            rintro e w6 ⟨rfl, hl6, hb6⟩
            have HR := hide (show ∃ (k' : Nat) (l' : List Nat), (Value.int .i64 (2 * (k : Int) + 1)) = .int .i64 (k' : Nat) ∧ k' < l.length ∧ l'.Perm l ∧ (∀ q, n ≤ q → l'.getD q 0 = l.getD q 0) ∧ DnI n (fun q => l'.getD q 0) k' ∧ Line w6 3 v l.length (nv l') ∧ w6.cell? ⟨b, o, none⟩ = some v ∧ But (gB v) w w6 from ⟨2 * k + 1, swp l' k (2 * k + 1), by congr 1, by omega, unhide HP, unhide HQ, unhide HU2, hl6, (hb6.cell (q := ⟨b, o, none⟩) (by have := block_lt_of_cell hc5; simpa using this) hng).trans hc5, (unhide HB5).trans hb6⟩)
            clear hl6 hb6 HU2 HQ HP HB5 hc5
            go_wp2
            go_roundw
            case rel => exact unhide HR
            case measure => simp [intOf]; omega
          · have hd : decide (l'.getD (2 * k + 1) 0 < l'.getD k 0) = false := decide_eq_false hlt
            have HF := hide (show ∃ l', l'.Perm l ∧ (∀ q, n ≤ q → l'.getD q 0 = l.getD q 0) ∧ HO n (fun k => l'.getD k 0) ∧ Line w5 3 v l.length (nv l') ∧ But (gB v) w w5 from ⟨l', hp, hsame, hu.done (fun c h1 h2 h3 => Nat.le_trans (Nat.le_of_not_lt hlt) (hmin c h1 h2 h3)), by rw [← hll]; exact hlW.same (fun g _ => by rw [hst5.heap]), hbW.trans (But.of_below hst5.below)⟩)
            rw [hd]
            clear hd HSw hm hu hp hbW hlW hst5 hcW hlt hmin hsame hll hc5
            go_wp2_with fail
            go_ret
            exact ⟨⟨_, rfl⟩, unhide HF⟩

      · have hmin : ∀ c, 0 < c → c < n → (c - 1) / 2 = k → l'.getD (2 * k + 1) 0 ≤ l'.getD c 0 := fun c c1 c2 c3 => by
          rw [show c = 2 * k + 1 by omega]; exact Nat.le_refl _
        have hcW := hc
        have hlW := hlr
        have hbW := hb
        clear hl hlr hb hc
        have HL2 := hide (less_raw (i := 2 * k + 1) (I := 2 * (k : Int) + 1) (j := k) (J := (k : Int)) hlW (by omega) (by omega) (by omega) (by omega))
        have HSw := hide (swap_raw (i := k) (I := (k : Int)) (j := 2 * k + 1) (J := 2 * (k : Int) + 1) hlW (by omega) (by omega) (by omega) (by omega))
        have hm := m_less wr b o v hcW
        go_wp2_with fail
        refine (unhide HL2 wr (Still.refl _)).mono ?_
        clear HL2 hm
        rintro e w5 ⟨rfl, hst5⟩
        have hc5 : w5.cell? ⟨b, o, none⟩ = some v := (hst5.cell _).trans hcW
        have hm := m_swap w5 b o v hc5
        by_cases hlt : l'.getD (2 * k + 1) 0 < l'.getD k 0
        · have hd : decide (l'.getD (2 * k + 1) 0 < l'.getD k 0) = true := decide_eq_true hlt
          rw [hd]
          clear hd
          have HU2 : Hid (DnI n (fun q => (swp l' k (2 * k + 1)).getD q 0) (2 * k + 1)) := hide (by
            rw [swp_get l' k (2 * k + 1) (by omega) (by omega)]
            exact hu.step (by omega) (by omega) (by omega) hmin hlt)
          have HQ : Hid (∀ q, n ≤ q → (swp l' k (2 * k + 1)).getD q 0 = l.getD q 0) := hide (fun q hq => by
            have := congrFun (swp_get l' k (2 * k + 1) (by omega) (by omega)) q
            rw [this, swf_o _ _ _ _ (by omega) (by omega)]; exact hsame q hq)
          have HP : Hid ((swp l' k (2 * k + 1)).Perm l) := hide ((swp_perm l' k (2 * k + 1) (by omega) (by omega)).trans hp)
          have HB5 : Hid (But (gB v) w w5) := hide (hbW.trans (But.of_below hst5.below))
          have HSw2 := hide (unhide HSw w5 hst5)
          rw [hll] at HSw2
          clear HSw hu hp hbW hlW hst5 hcW hlt hmin hsame hll
          go_wp2_with fail
          refine (unhide HSw2).mono ?_
          clear HSw2 hm
          rintro e w6 ⟨rfl, hl6, hb6⟩
          have HR := hide (show ∃ (k' : Nat) (l' : List Nat), (Value.int .i64 (2 * (k : Int) + 1)) = .int .i64 (k' : Nat) ∧ k' < l.length ∧ l'.Perm l ∧ (∀ q, n ≤ q → l'.getD q 0 = l.getD q 0) ∧ DnI n (fun q => l'.getD q 0) k' ∧ Line w6 3 v l.length (nv l') ∧ w6.cell? ⟨b, o, none⟩ = some v ∧ But (gB v) w w6 from ⟨2 * k + 1, swp l' k (2 * k + 1), by congr 1, by omega, unhide HP, unhide HQ, unhide HU2, hl6, (hb6.cell (q := ⟨b, o, none⟩) (by have := block_lt_of_cell hc5; simpa using this) hng).trans hc5, (unhide HB5).trans hb6⟩)
          clear hl6 hb6 HU2 HQ HP HB5 hc5
          go_wp2
          go_roundw
          case rel => exact unhide HR
          case measure => simp [intOf]; omega
        · have hd : decide (l'.getD (2 * k + 1) 0 < l'.getD k 0) = false := decide_eq_false hlt
          have HF := hide (show ∃ l', l'.Perm l ∧ (∀ q, n ≤ q → l'.getD q 0 = l.getD q 0) ∧ HO n (fun k => l'.getD k 0) ∧ Line w5 3 v l.length (nv l') ∧ But (gB v) w w5 from ⟨l', hp, hsame, hu.done (fun c h1 h2 h3 => Nat.le_trans (Nat.le_of_not_lt hlt) (hmin c h1 h2 h3)), by rw [← hll]; exact hlW.same (fun g _ => by rw [hst5.heap]), hbW.trans (But.of_below hst5.below)⟩)
          rw [hd]
          clear hd HSw hm hu hp hbW hlW hst5 hcW hlt hmin hsame hll hc5
          go_wp2_with fail
          go_ret
          exact ⟨⟨_, rfl⟩, unhide HF⟩

end Go.Proofs.YtidfllgaeiopjaaGreat
