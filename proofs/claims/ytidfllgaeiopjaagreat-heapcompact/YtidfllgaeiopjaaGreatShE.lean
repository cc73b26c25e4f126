/- give: no handle is free: one more. -/
import Derived.Test.YtidfllgaeiopjaaGreatRootM
import Derived.Test.YtidfllgaeiopjaaGreatStatW
import Derived.Test.YtidfllgaeiopjaaGreatTwice
namespace Go.Proofs.YtidfllgaeiopjaaGreat
open Go.ChangeShapes Go.WideShapes Go.ChangeAt Go.RowKit
set_option linter.unusedVariables false
set_option maxRecDepth 100000
set_option maxHeartbeats 1000000

theorem elem_getD {α : Type} (l : List α) (d : α) (k : Nat) (h : k < l.length) : l[k] = l.getD k d := by
  rw [List.getD_eq_getElem?_getD, List.getElem?_eq_getElem h]
  rfl
/-- the bytes of an object -/
def bytM (M : Hp) (i : Nat) : List Nat := Larder.unpackL (ob M i).raws (8 * (ob M i).raws.length)
def spanM (M : Hp) (x : Nat) (from' n : Int) : Nat := if numOf M x = 0 then 32 else if 0 ≤ from' ∧ 0 ≤ n ∧ from' + n ≤ 8 * ((ob M (numOf M x)).raws.length : Nat) then 0 else 33

theorem Found.raws {w : World} {ph : Nat} {M : Hp} {H : HC} {x i t q : Nat} {a : Nat × Nat × Nat} {R : RefSt} {j : Nat} (f : Found w ph M H x i t q a R j) : rawsOf R j = (ob M i).raws := by
  unfold rawsOf
  rw [f.fl, f.sh, mix_zero]
  show (((ob M i).refs.map (refW M)) ++ (ob M i).raws).drop (ob M i).refs.length = _
  have : (ob M i).refs.length = ((ob M i).refs.map (refW M)).length := by rw [List.length_map]
  rw [this, List.drop_left]
theorem Found.byt {w : World} {ph : Nat} {M : Hp} {H : HC} {x i t q : Nat} {a : Nat × Nat × Nat} {R : RefSt} {j : Nat} (f : Found w ph M H x i t q a R j) : rbyN R j = bytM M i := by
  unfold rbyN bytM
  rw [f.raws, f.sh]
  rfl
theorem Found.span {w : World} {ph : Nat} {M : Hp} {H : HC} {x i t q : Nat} {a : Nat × Nat × Nat} {R : RefSt} {j : Nat} (f : Found w ph M H x i t q a R j) (from' n : Int) : rspan R (place R.L j : Nat) from' n = if 0 ≤ from' ∧ 0 ≤ n ∧ from' + n ≤ 8 * ((ob M i).raws.length : Nat) then 0 else 25 := by
  unfold rspan
  rw [f.obj, if_neg (by simp)]

/-- an object whose bytes from f on are l -/
def layO (M : Hp) (i f : Nat) (l : List Nat) : Ob := { ob M i with raws := Larder.packL (patch (bytM M i) f l) }
def setbM (M : Hp) (x : Nat) (from' : Int) (l : List Nat) : Hp := if spanM M x from' l.length = 0 then putO M (numOf M x) (layO M (numOf M x) from'.toNat l) else M

theorem fill_ok {R : RefSt} (o : RefOk R) (j : Nat) (hj : j < R.L.length) (l : List Nat) (hl : ∀ k, l.getD k 0 < 18446744073709551616) : ∀ m, RefOk (R.fill j l m)
  | 0 => o
  | m + 1 => (fill_ok o j hj l hl m).put j _ _ (hl m)
theorem fill_eq {R : RefSt} (o : RefOk R) (j : Nat) (hj : j < R.L.length) (l : List Nat) (hl : l.length = (R.L.getD j (0, 0, 0)).2.2) : R.fill j l (R.L.getD j (0, 0, 0)).2.2 = { R with X := R.X.set j ((R.X.getD j []).take (R.L.getD j (0, 0, 0)).2.1 ++ l) } := by
  obtain ⟨s1, s2, s3, s4, s5⟩ := fill_same R j l (R.L.getD j (0, 0, 0)).2.2
  obtain ⟨i1, i2, i3, i4⟩ := fill_x o j hj l _ (Nat.le_refl _)
  have hxl : (R.X.getD j []).length = fldsOf R.L j := o.xs j hj
  have hjx : j < R.X.length := by rw [o.xl]; exact hj
  have hf : fldsOf R.L j = (R.L.getD j (0, 0, 0)).2.1 + (R.L.getD j (0, 0, 0)).2.2 := rfl
  generalize hG : R.fill j l (R.L.getD j (0, 0, 0)).2.2 = G at s1 s2 s3 s4 s5 i1 i2 i3 i4
  have hX : G.X = R.X.set j ((R.X.getD j []).take (R.L.getD j (0, 0, 0)).2.1 ++ l) := by
    refine List.ext_getElem (by rw [List.length_set]; exact i1) fun i h1 h2 => ?_
    rw [List.length_set] at h2
    have g1 : G.X[i] = G.X.getD i [] := by rw [List.getD_eq_getElem?_getD, List.getElem?_eq_getElem h1]; rfl
    rw [g1, List.getElem_set]
    by_cases e : j = i
    · subst e
      rw [if_pos rfl]
      refine List.ext_getElem (by rw [i2, List.length_append, List.length_take, hl]; omega) fun k k1 k2 => ?_
      have g2 : (G.X.getD j [])[k] = (G.X.getD j []).getD k 0 := elem_getD _ _ _ k1
      rw [g2, i4 k]
      by_cases hk : k < (R.L.getD j (0, 0, 0)).2.1
      · rw [if_neg (by omega), List.getElem_append_left (by rw [List.length_take]; omega), List.getElem_take]
        exact (elem_getD _ _ _ _).symm
      · rw [if_pos ⟨by omega, by omega⟩, List.getElem_append_right (by rw [List.length_take]; omega)]
        have : min (R.L.getD j (0, 0, 0)).2.1 (R.X.getD j []).length = (R.L.getD j (0, 0, 0)).2.1 := by omega
        simp only [List.length_take, this]
        exact (elem_getD _ _ _ _).symm
    · rw [if_neg e, i3 i (fun q => e q.symm), List.getD_eq_getElem?_getD, List.getElem?_eq_getElem h2]
      rfl
  cases G
  cases R
  dsimp only at *
  subst s1; subst s2; subst s3; subst s4; subst s5
  rw [hX]

theorem lay_len (M : Hp) (i f : Nat) (l : List Nat) : (Larder.packL (patch (bytM M i) f l)).length = (ob M i).raws.length := by
  rw [Larder.packL_length, patch_length]
  unfold bytM
  rw [Larder.unpackL_length]
  unfold Larder.wn
  omega

theorem hsetbytesM_any {w : World} {ph : Nat} {tag : Nat → Nat} {M : Hp} {H : HC} (h : HAt w ph tag M H) (x : Nat) (hx : x < 18446744073709551616) (from' : Int) (hf1 : from' ≤ 9223372036854775807) (hf2 : -9223372036854775808 ≤ from') (l : List Nat) (a : Option Addr) (cap : Nat) (hB : Bytes w a l) (hsl : Small l) :
    Calls Tryz.prog 93 #[.pointer (some ⟨ph, 0, none⟩), .int .u64 (x : Nat), .int .i64 from', .slice a l.length cap] w fun e w' => e = .returned (.int .i64 (spanM M x from' l.length : Nat)) ∧ ∃ H', HAt w' ph tag (setbM M x from' l) H' ∧ Fr tag tag w w' := by
  rcases found_any h x hx with ⟨t, q, a', R, j, f⟩ | ⟨h0, ⟨ho, hA, hno⟩ | hn⟩
  · obtain ⟨ws, hs, us, hA, r, o⟩ := f.ar
    refine (hsetbytes_any f.ho hA r o l a cap hf1 hf2 hB hsl).mono ?_
    rintro e w' ⟨rfl, w0, k0, kk, ws', hA', k1, k2⟩
    have hkk : But [a'.1, a'.2.1, a'.2.2] w0 w' := kk
    by_cases hc : 0 ≤ from' ∧ 0 ≤ (l.length : Int) ∧ from' + (l.length : Nat) ≤ 8 * ((ob M (numOf M x)).raws.length : Nat)
    · have es : spanM M x from' l.length = 0 := by unfold spanM; rw [if_neg f.i0, if_pos hc]
      have er : rspan R (place R.L j : Nat) from' l.length = 0 := by rw [f.span, if_pos hc]
      have em : setbM M x from' l = putO M (numOf M x) (layO M (numOf M x) from'.toNat l) := if_pos es
      rw [es, er, em]
      refine ⟨rfl, ?_⟩
      obtain ⟨m, rfl⟩ := Int.eq_ofNat_of_zero_le hc.1
      have hW := k2 er j m f.hj rfl rfl
      have hn : m + l.length ≤ 8 * (R.L.getD j (0, 0, 0)).2.2 := by rw [f.sh]; show m + l.length ≤ 8 * (ob M (numOf M x)).raws.length; omega
      have hR := r.fill o j m l f.hj hsl hn (fun i hi => hA'.small i hi) hW
      have hps : Larder.SmallL (patch (rbyN R j) m l) := patch_below 256 _ _ _ (Larder.unpackL_small _ _) hsl
      have hpl : ∀ k, (Larder.packL (patch (rbyN R j) m l)).getD k 0 < 18446744073709551616 := fun k => by rw [← Larder.packK_all]; exact Larder.packK_lt hps _ _
      have hAR : ArR w' a' _ := ⟨ws', hs, us, hA', hR, fill_ok o j f.hj _ hpl _⟩
      have hll : (Larder.packL (patch (rbyN R j) m l)).length = (R.L.getD j (0, 0, 0)).2.2 := by rw [f.byt, lay_len, f.sh]; rfl
      rw [fill_eq o j f.hj _ hll, f.byt, f.fl, f.sh, mix_zero] at hAR
      have ht : ((ob M (numOf M x)).refs.map (refW M) ++ (ob M (numOf M x)).raws).take (shp (ob M (numOf M x))).2.1 = (ob M (numOf M x)).refs.map (refW M) := by
        show List.take (ob M (numOf M x)).refs.length _ = _
        have : (ob M (numOf M x)).refs.length = ((ob M (numOf M x)).refs.map (refW M)).length := by rw [List.length_map]
        rw [this, List.take_left]
      rw [ht] at hAR
      exact h.putO f (layO M (numOf M x) m l) ⟨rfl, rfl, lay_len M _ m l, rfl, rfl⟩ (h.wf.ok.rf _ f.is) k0.below hkk hAR
    · have es : spanM M x from' l.length = 33 := by unfold spanM; rw [if_neg f.i0, if_neg hc]
      have er : rspan R (place R.L j : Nat) from' l.length = 25 := by rw [f.span, if_neg hc]
      have em : setbM M x from' l = M := if_neg (by rw [es]; decide)
      rw [es, er, em]
      refine ⟨rfl, ?_⟩
      have := k1 (by rw [er]; decide)
      subst this
      exact h.sameA f k0.below hkk ⟨_, hs, us, hA', r, o⟩
  · obtain ⟨ws, hs, us, hA, r, o⟩ := hA
    have es : spanM M x from' l.length = 32 := if_pos h0
    have er : rspan (midA M []) (x : Nat) from' l.length = 23 := by unfold rspan; rw [robj_no hno, if_pos (by simp)]
    have em : setbM M x from' l = M := if_neg (by rw [es]; decide)
    refine (hsetbytes_any ho hA r o l a cap hf1 hf2 hB hsl).mono ?_
    rintro e w' ⟨rfl, w0, k0, kk, ws', hA', k1, k2⟩
    rw [es, er, em]
    refine ⟨rfl, ?_⟩
    have := k1 (by rw [er]; decide)
    subst this
    have hA2 : ArR w' H.a (midA M []) := ⟨_, hs, us, hA', r, o⟩
    have hkk : But [H.a.1, H.a.2.1, H.a.2.2] w0 w' := kk
    have tA := h.raw.tA
    have hbl : ∀ g, g < w.heap.size → g ≠ H.a.1 → g ≠ H.a.2.1 → g ≠ H.a.2.2 → w'.heap[g]? = w.heap[g]? := fun g hg e1 e2 e3 => (hkk.block g (Nat.lt_of_lt_of_le hg k0.below.size) (by simp [e1, e2, e3])).trans (k0.below.block g hg)
    have hraw := h.raw.turn [2] (by decide) (by decide) (Nat.le_trans k0.below.size hkk.size) (fun g h0 h2 => hbl g (h.raw.un g h0) (by rintro rfl; exact h2 (by rw [tA.1]; decide)) (by rintro rfl; exact h2 (by rw [tA.2.1]; decide)) (by rintro rfl; exact h2 (by rw [tA.2.2]; decide)))
      (midA M []) H.S H.cH H.bk H.re (.inr hA2) (.inl ⟨by decide, rfl⟩) (.inl ⟨by decide, rfl⟩) (fun s' bp' _ => .inl ⟨by simp; omega, rfl, rfl⟩)
    exact ⟨_, { raw := hraw, wf := h.wf, nL := h.nL, nG := h.nG, nK := h.nK, nM := h.nM, nC := h.nC, nR := h.nR, A := rfl, S := h.S, cB := h.cB, bk := h.bk, re := h.re, cH := h.cH, lB := h.lB, lH := h.lH }, ⟨hkk.os.trans k0.below.os, hkk.tape.trans k0.below.tape, hkk.output.trans k0.below.output, Nat.le_trans k0.below.size hkk.size, fun g hg e => ⟨hbl g hg (by rintro rfl; omega) (by rintro rfl; omega) (by rintro rfl; omega), e⟩⟩⟩
  · have es : spanM M x from' l.length = 32 := if_pos h0
    have em : setbM M x from' l = M := if_neg (by rw [es]; decide)
    rw [es, em]
    refine (hsetbytes_none hn).mono ?_
    rintro e w' ⟨rfl, k⟩
    exact ⟨rfl, h.still' k.below⟩
end Go.Proofs.YtidfllgaeiopjaaGreat
namespace Go.Proofs.YtidfllgaeiopjaaGreat
open Go.ChangeShapes Go.WideShapes Go.ChangeAt Go.RowKit
set_option linter.unusedVariables false
set_option maxRecDepth 100000
set_option maxHeartbeats 1000000

theorem count_range {α : Type} (p : α → Bool) (d : α) (hd : p d = false) : ∀ (l : List α) (n : Nat), l.length ≤ n → ((List.range n).filter (fun x => p (l.getD x d))).length = (l.filter p).length
  | [], n, _ => by
    rw [List.filter_eq_nil_iff.2 (fun x _ => by simp [hd])]
    rfl
  | a :: l, 0, h => absurd h (Nat.not_succ_le_zero _)
  | a :: l, n + 1, h => by
    have ih := count_range p d hd l n (Nat.le_of_succ_le_succ h)
    rw [List.range_succ_eq_map, List.filter_cons, List.filter_map, List.filter_cons]
    have e : ((fun x => p ((a :: l).getD x d)) ∘ Nat.succ) = fun x => p (l.getD x d) := by
      funext x
      rfl
    rw [e]
    have e0 : (a :: l).getD 0 d = a := rfl
    rw [e0]
    by_cases hp : p a = true
    · rw [if_pos hp, if_pos hp, List.length_cons, List.length_cons, List.length_map, ih]
    · rw [if_neg hp, if_neg hp, List.length_map, ih]

/-- the slots in use, the handles in use -/
def cntS (M : Hp) : Nat := (M.slots.filter fun i => i != 0).length
def cntR (M : Hp) : Nat := countOf M.roots
theorem HAt.cntS {w : World} {ph : Nat} {tag : Nat → Nat} {M : Hp} {H : HC} (h : HAt w ph tag M H) : countOf H.cB = cntS M := by
  unfold countOf Go.Proofs.YtidfllgaeiopjaaGreat.cntS
  rw [← count_range Option.isSome none rfl H.cB M.slots.length h.lB.1, ← count_range (fun i => i != 0) 0 rfl M.slots M.slots.length (Nat.le_refl _)]
  congr 1
  refine List.filter_congr fun x _ => ?_
  have := h.cB x
  cases hq : (H.cB.getD x none).isSome with
  | true => rw [hq] at this; have := this.1 rfl; simpa using this
  | false =>
    rw [hq] at this
    by_cases q : M.slots.getD x 0 = 0
    · rw [q]; rfl
    · exact absurd (this.2 q) (by simp)
theorem HAt.cntR {w : World} {ph : Nat} {tag : Nat → Nat} {M : Hp} {H : HC} (h : HAt w ph tag M H) : countOf H.cH = cntR M := by
  unfold Go.Proofs.YtidfllgaeiopjaaGreat.cntR countOf
  rw [← count_range Option.isSome none rfl H.cH M.roots.length h.lH.1, ← count_range Option.isSome none rfl M.roots M.roots.length (Nat.le_refl _)]
  congr 1
  refine List.filter_congr fun x _ => ?_
  rw [h.cH x]
  cases M.roots.getD x none <;> rfl

theorem hstats_any {w : World} {ph : Nat} {tag : Nat → Nat} {M : Hp} {H : HC} (h : HAt w ph tag M H) :
    Calls Tryz.prog 16 #[.pointer (some ⟨ph, 0, none⟩)] w fun e w' => e = .returned (.agg #[.int .i64 (M.limit : Nat), .int .i64 (M.half : Nat), .int .i64 (M.used : Nat), .int .i64 (M.large : Nat), .int .i64 (cntS M : Nat), .int .i64 (cntR M : Nat), .int .i64 (M.coll : Nat), .int .i64 (M.resz : Nat), .int .i64 (M.moved : Nat)]) ∧ Below w.heap.size w w' := by
  have hA := h.raw.hA
  rw [h.A] at hA
  have q := hA.lt
  have cf : ∀ W, Below w.heap.size w W → ArR W H.a (midA M []) := fun W k => hA.conf k.size (k.block _ q.1) (k.block _ q.2.1) (k.block _ q.2.2)
  have n0 := h.raw.n0
  rw [h.nL] at n0
  have n9 := h.raw.n9
  rw [h.nG] at n9
  have n11 := h.raw.n11
  rw [h.nM] at n11
  have n12 := h.raw.n12
  rw [h.nC] at n12
  have n13 := h.raw.n13
  rw [h.nR] at n13
  have c5 := h.raw.pB.c2
  rw [h.cntS] at c5
  have c8 := h.raw.pH.c2
  rw [h.cntR] at c8
  exact hstats_walk n0 h.raw.n1 n9 c5 c8 n11 n12 n13 (fun W k => by
    have := r_used (cf W k)
    rw [midA_used M h.wf.ok] at this
    exact this) (fun W k => r_size (cf W k))

def imgM (M : Hp) : List Nat := rimg (midA M []) M.small.length
theorem himage_any {w : World} {ph : Nat} {tag : Nat → Nat} {M : Hp} {H : HC} (h : HAt w ph tag M H) :
    Calls Tryz.prog 15 #[.pointer (some ⟨ph, 0, none⟩)] w fun e w' => ∃ v, e = .returned v ∧ (v = .slice (some ⟨w.heap.size, 0, none⟩) M.used M.used ∧ w.heap.size < w'.heap.size ∧ (imgM M).length = M.used ∧ (∀ j, j < M.used → w'.cell? ⟨w.heap.size, j, none⟩ = some (.int .u64 ((imgM M).getD j 0 : Nat))) ∧ Below w.heap.size w w') := by
  have hA := h.raw.hA
  rw [h.A] at hA
  obtain ⟨ws, hs, us, hA, r, o⟩ := hA
  have hu : us = M.used := r.us.trans (midA_used M h.wf.ok [])
  have hl : (midA M []).L.length = M.small.length := shapes_length M M.small
  obtain ⟨i1, i2⟩ := r.image o M.small.length (by rw [hl]; exact Nat.le_refl _)
  have hp : place (midA M []).L M.small.length = M.used := by rw [← hl]; exact midA_used M h.wf.ok []
  rw [hp] at i1 i2
  refine himage_walk (R := fun v w' => v = .slice (some ⟨w.heap.size, 0, none⟩) M.used M.used ∧ w.heap.size < w'.heap.size ∧ (imgM M).length = M.used ∧ (∀ j, j < M.used → w'.cell? ⟨w.heap.size, j, none⟩ = some (.int .u64 ((imgM M).getD j 0 : Nat))) ∧ Below w.heap.size w w') h.raw.n1 ((image_any w hA).mono ?_)
  rintro e w' ⟨rfl, k1, k2, k3⟩
  rw [hu] at k2 ⊢
  exact ⟨_, _, _, rfl, rfl, k1, i1, fun j hj => by unfold imgM; rw [← i2 j hj]; exact k2 j hj, k3⟩
end Go.Proofs.YtidfllgaeiopjaaGreat
namespace Go.Proofs.YtidfllgaeiopjaaGreat
open Go.ChangeShapes Go.WideShapes Go.ChangeAt Go.RowKit
set_option linter.unusedVariables false
set_option maxHeartbeats 1000000

theorem num_back {M : Hp} (ok : HpOk M) {i : Nat} (h : Is M i) : numOf M (refW M i) = i ∧ refW M i < 18446744073709551616 ∧ refW M i ≠ 0 := by
  rcases h with h | ⟨h0, h⟩
  · obtain ⟨j, hj, e⟩ := List.getElem_of_mem h
    have q := ok.s1 i h
    have hg : M.small.getD j 0 = i := by rw [List.getD_eq_getElem?_getD, List.getElem?_eq_getElem hj, e]; rfl
    have ha : addr M M.small i = place (shapes M M.small) j := by rw [← hg, addr_at M _ ok.sm j hj]
    have hr : refW M i = place (shapes M M.small) j := by
      unfold refW
      rw [if_neg q.1, if_neg (by rw [q.2.1]; decide), q.2.2, ha]
    have hp : place (shapes M M.small) j ≤ 1048576 := by
      have h1 := place_le (shapes M M.small) (i := j) (j := M.small.length) (by omega)
      have h2 := ok.us
      have h3 := ok.u2
      have h4 := ok.h2
      omega
    have h1 := place_pos (shapes M M.small) j
    rw [hr]
    refine ⟨?_, by omega, by omega⟩
    unfold numOf
    rw [if_pos (by unfold topW; omega), findJ_yes (j := j) (by rw [shapes_length]; exact hj) rfl]
    exact hg
  · obtain ⟨s, hs, e⟩ := mem_slot h
    have hs0 : M.slots.getD s 0 ≠ 0 := by rw [e]; exact h0
    have q := ok.b1 s hs0
    rw [e] at q
    have hr : refW M i = topW + s := by
      unfold refW
      rw [if_neg h0, if_pos q.1, q.2]
    have hl := ok.sl
    rw [hr]
    refine ⟨?_, by unfold topW; omega, by unfold topW; omega⟩
    unfold numOf
    rw [if_neg (by omega), Nat.add_sub_cancel_left]
    exact e

/-- the data of an object -/
def dat (o : Ob) : Nat × List Nat × List Nat := (o.kind, o.refs, o.raws)
/-- a graph beside the heap: the same numbers, the same data at all that is there -/
structure Gr (M : Hp) (ns : List (Nat × List Nat × List Nat)) : Prop where
  ln : ns.length = M.objs.length
  dt : ∀ i, Is M i → ns.getD i (0, [], []) = dat (ob M i)

theorem Gr.same {M N : Hp} {ns : List (Nat × List Nat × List Nat)} (g : Gr M ns) (e1 : N.objs = M.objs) (e2 : N.small = M.small) (e3 : N.slots = M.slots) : Gr N ns := by
  refine ⟨by rw [e1]; exact g.ln, fun i hi => ?_⟩
  have hi' : Is M i := by unfold Is at hi ⊢; rw [e2, e3] at hi; exact hi
  rw [g.dt i hi']
  unfold ob
  rw [e1]
theorem coll_is {M : Hp} {k : Wk} (f : Fin' M k) {i : Nat} (h : Is (collM M k) i) : i ∈ k.cop ∨ i ∈ k.lin := by
  rcases h with h | ⟨h0, h⟩
  · exact .inl h
  · obtain ⟨j, hj, e⟩ := List.mem_map.1 h
    by_cases q : j ∈ k.lin
    · rw [if_pos q] at e; exact .inr (e ▸ q)
    · rw [if_neg q] at e; exact absurd e.symm h0
theorem Gr.coll {M M' : Hp} {ns : List (Nat × List Nat × List Nat)} (wf : HpWf M) (g : Gr M ns) (h : IsColl M M') : Gr M' ns := by
  refine ⟨by rw [h.nums.2.2.2.2.2]; exact g.ln, fun i hi => ?_⟩
  obtain ⟨t, a1, a2, f, rfl⟩ := h
  have q := coll_is f hi
  rw [g.dt i (f.is q)]
  obtain ⟨p1, p2, p3, _⟩ := f.parts wf q
  unfold dat
  rw [p1, p2, p3]
theorem fitM_small (M : Hp) (s : Nat) : (fitM M s).small = M.small := by
  unfold fitM becM
  split
  · split
    · split <;> rfl
    · rfl
  · split
    · split <;> rfl
    · rfl
theorem Gr.fit {M : Hp} {ns : List (Nat × List Nat × List Nat)} (g : Gr M ns) (s : Nat) : Gr (fitM M s) ns := by
  obtain ⟨e1, _, _, _, e5⟩ := fitM_objs M s
  exact g.same e1 (fitM_small M s) e5
theorem Gr.bec {M : Hp} {ns : List (Nat × List Nat × List Nat)} (g : Gr M ns) (n : Nat) : Gr (becM M n) ns := by
  obtain ⟨e1, _, _, _, e5, _, _, e8, _⟩ := becM_parts M n
  exact g.same e1 e8 e5

theorem addS_is {M : Hp} {k r s i : Nat} (h : Is (addS M k r s) i) : i = M.objs.length ∨ Is M i := by
  rcases h with h | h
  · rcases List.mem_append.1 h with q | q
    · exact .inr (.inl q)
    · exact .inl (List.mem_singleton.1 q)
  · exact .inr (.inr h)
theorem addL_is {M : Hp} {k r s n i : Nat} (h : Is (addL M k r s n) i) : i = M.objs.length ∨ Is M i := by
  rcases h with h | ⟨h0, h⟩
  · exact .inr (.inl h)
  · have h' : i ∈ (if n < M.slots.length then M.slots.set n M.objs.length else M.slots ++ [M.objs.length]) := h
    split at h'
    · rcases List.mem_or_eq_of_mem_set h' with q | q
      · exact .inr (.inr ⟨h0, q⟩)
      · exact .inl q
    · rcases List.mem_append.1 h' with q | q
      · exact .inr (.inr ⟨h0, q⟩)
      · exact .inl (List.mem_singleton.1 q)
/-- an object is written: its data in the graph too -/
theorem Gr.put {M : Hp} {ns : List (Nat × List Nat × List Nat)} (g : Gr M ns) (n : Nat) (o : Ob) (hn : n < M.objs.length) : Gr (putO M n o) (ns.set n (dat o)) := by
  refine ⟨by rw [List.length_set, g.ln]; show _ = (M.objs.set n o).length; rw [List.length_set], fun i hi => ?_⟩
  rw [ob_put, List.getD_eq_getElem?_getD, List.getElem?_set]
  by_cases e : n = i
  · subst e
    rw [if_pos rfl, if_pos (by rw [g.ln]; exact hn), if_pos ⟨rfl, hn⟩]
    rfl
  · rw [if_neg e, if_neg (fun q => e q.1.symm), ← List.getD_eq_getElem?_getD]
    exact g.dt i hi
theorem Gr.roots {M : Hp} {ns : List (Nat × List Nat × List Nat)} (g : Gr M ns) (r : List (Option Nat)) : Gr { M with roots := r } ns := g.same rfl rfl rfl
theorem Gr.new (n : Nat) : Gr (newM n) [(0, [], [])] := ⟨rfl, fun i hi => by
  rcases hi with hi | ⟨_, hi⟩
  · exact absurd hi List.not_mem_nil
  · exact absurd hi List.not_mem_nil⟩
end Go.Proofs.YtidfllgaeiopjaaGreat
namespace Go.Proofs.YtidfllgaeiopjaaGreat
open Go.ChangeShapes Go.WideShapes Go.ChangeAt Go.RowKit
set_option linter.unusedVariables false
set_option maxHeartbeats 1000000

theorem Gr.more {M N : Hp} {ns : List (Nat × List Nat × List Nat)} (hl : ∀ i, Is M i → i < M.objs.length) (g : Gr M ns) (x : Ob) (e1 : N.objs = M.objs ++ [x]) (hi : ∀ i, Is N i → i = M.objs.length ∨ Is M i) : Gr N (ns ++ [dat x]) := by
  refine ⟨by rw [e1, List.length_append, List.length_append, g.ln]; rfl, fun i h => ?_⟩
  rw [getD_snoc, g.ln]
  rcases hi i h with rfl | q
  · rw [if_neg (Nat.lt_irrefl _), if_pos rfl, ob_new e1]
  · have := hl i q
    rw [if_pos this, g.dt i q, ob_old e1 this]

/-- what a heap is behind the collection that Alloc may make -/
structure Kept2 (M M1 : Hp) : Prop where
  ln : ∀ i, Is M1 i → i < M1.objs.length
  len : M1.objs.length = M.objs.length
  rt : M1.roots = M.roots
  gr : ∀ ns, Gr M ns → Gr M1 ns
theorem Kept2.refl {M : Hp} (wf : HpWf M) : Kept2 M M := ⟨wf.ln, rfl, rfl, fun _ g => g⟩
theorem Kept2.fit {M M0 : Hp} (wf : HpWf M) (h : IsColl M M0) (s : Nat) : Kept2 M (fitM M0 s) := by
  obtain ⟨e1, e2, _, _, e5⟩ := fitM_objs M0 s
  have e8 := fitM_small M0 s
  have hwf : HpWf M0 := by
    obtain ⟨t, _, _, f, rfl⟩ := h
    exact f.wf wf
  refine ⟨fun i hi => ?_, by rw [e1, h.nums.2.2.2.2.2], by rw [e2, h.nums.2.2.2.2.1], fun ns g => (g.coll wf h).fit s⟩
  rw [e1]
  exact hwf.ln i (by unfold Is at hi ⊢; rw [e8, e5] at hi; exact hi)
theorem Kept2.bec {M M1 : Hp} (k : Kept2 M M1) (n : Nat) : Kept2 M (becM M1 n) := by
  obtain ⟨e1, e2, _, _, e5, _, _, e8, _⟩ := becM_parts M1 n
  refine ⟨fun i hi => ?_, by rw [e1]; exact k.len, by rw [e2]; exact k.rt, fun ns g => (k.gr ns g).bec n⟩
  rw [e1]
  exact k.ln i (by unfold Is at hi ⊢; rw [e8, e5] at hi; exact hi)

theorem AllocR.gr {M M' : Hp} {k r s v x : Nat} (wf : HpWf M) (h1 : 1 ≤ M.objs.length) (h : AllocR M k r s M' v x) : M'.roots = M.roots ∧
    ((x = 0 ∧ M'.objs.length = M.objs.length + 1 ∧ refW M' M.objs.length = v ∧ Is M' M.objs.length ∧ ∀ ns, Gr M ns → Gr M' (ns ++ [(k, List.replicate r 0, List.replicate s 0)])) ∨ (x = 31 ∧ v = 0 ∧ M'.objs.length = M.objs.length ∧ ∀ ns, Gr M ns → Gr M' ns)) := by
  rcases h with ⟨hs, M1, hp, h⟩ | ⟨hs, M1, hp, h⟩
  · have kk : Kept2 M M1 := by
      rcases hp with ⟨_, rfl⟩ | ⟨_, M0, hc, rfl⟩
      · exact .refl wf
      · exact .fit wf hc _
    rcases h with ⟨a, rfl, rfl, rfl⟩ | ⟨a, rfl, rfl, rfl⟩
    · refine ⟨kk.rt, .inl ⟨rfl, ?_, ?_, ?_, fun ns g => (kk.gr ns g).more kk.ln (newOb k r s false M1.used) rfl fun i hi => addS_is hi⟩⟩
      · show (M1.objs ++ [_]).length = _
        rw [List.length_append, kk.len]; rfl
      · unfold refW
        rw [← kk.len, if_neg (by rw [kk.len]; omega), ob_new (M := M1) (M' := addS M1 k r s) rfl]
        rfl
      · left
        show _ ∈ M1.small ++ [M1.objs.length]
        rw [kk.len]
        exact List.mem_append_right _ List.mem_cons_self
    · exact ⟨kk.rt, .inr ⟨rfl, rfl, kk.len, kk.gr⟩⟩
  · have kk : Kept2 M M1 := by
      rcases hp with ⟨_, _, rfl⟩ | ⟨_, M0, hc, rfl⟩
      · exact .refl wf
      · exact .fit wf hc _
    rcases h with ⟨M2, n, a, al, rfl, rfl, rfl⟩ | ⟨a, rfl, rfl, rfl⟩
    · have k2 : Kept2 M M2 := by
        rcases a with ⟨_, rfl⟩ | ⟨_, _, _, _, rfl⟩
        · exact kk
        · exact kk.bec _
      refine ⟨k2.rt, .inl ⟨rfl, ?_, ?_, ?_, fun ns g => (k2.gr ns g).more k2.ln (newOb k r s true n) rfl fun i hi => addL_is hi⟩⟩
      · show (M2.objs ++ [_]).length = _
        rw [List.length_append, k2.len]; rfl
      · unfold refW
        rw [← k2.len, if_neg (by rw [k2.len]; omega), ob_new (M := M2) (M' := addL M2 k r s n) rfl]
        rfl
      · right
        refine ⟨by omega, ?_⟩
        have e := addL_slot M2 k r s n n al.2.1
        rw [if_pos rfl, k2.len] at e
        have := slot_mem (M := addL M2 k r s n) (s := n) (by rw [e]; omega)
        rw [e] at this
        exact this.2
    · exact ⟨kk.rt, .inr ⟨rfl, rfl, kk.len, kk.gr⟩⟩

end Go.Proofs.YtidfllgaeiopjaaGreat
namespace Go.Proofs.YtidfllgaeiopjaaGreat
open Go.ChangeShapes Go.WideShapes Go.ChangeAt Go.RowKit
set_option linter.unusedVariables false
set_option maxRecDepth 100000
set_option maxHeartbeats 1000000

/-- all that was there in w0 is as it was, and none of it is the heap's -/
structure Own0 (w0 w : World) (tag : Nat → Nat) : Prop where
  be : Below w0.heap.size w0 w
  tg : ∀ g, g < w0.heap.size → tag g = 0
theorem Own0.fr {w0 w w' : World} {tag tag' : Nat → Nat} (h : Own0 w0 w tag) (f : Fr tag tag' w w') : Own0 w0 w' tag' :=
  ⟨⟨f.os.trans h.be.os, f.tape.trans h.be.tape, f.output.trans h.be.output, Nat.le_trans h.be.size f.size, fun g hg => (f.blk g (Nat.lt_of_lt_of_le hg h.be.size) (h.tg g hg)).1.trans (h.be.block g hg)⟩, fun g hg => (f.blk g (Nat.lt_of_lt_of_le hg h.be.size) (h.tg g hg)).2⟩
theorem Own0.below {w0 w w' : World} {tag : Nat → Nat} (h : Own0 w0 w tag) (k : Below w.heap.size w w') : Own0 w0 w' tag := ⟨h.be.trans (k.mono h.be.size), h.tg⟩

def wk2 : Hp := addS (newM 1000) 7 1 2
def wk3 : Hp := putO wk2 1 (setO wk2 1 2 99)
def wk4 : Hp := rootM wk3 0 1
theorem wk_alloc : AllocR (newM 1000) 7 1 2 wk2 1 0 := .inl ⟨by decide, newM 1000, .inl ⟨by decide, rfl⟩, .inl ⟨by decide, rfl, rfl, rfl⟩⟩
theorem wk_set : setM wk2 1 2 99 = (wk3, 0) := by rfl
theorem wk_may : mayM wk3 1 = true := by rfl
theorem wk_low : LowR wk3 0 := ⟨rfl, Nat.le_refl _, fun q hq => absurd hq (Nat.not_lt_zero _)⟩
theorem wk_gr : Gr wk4 [(0, [], []), (7, [0], [0, 99])] := by
  have g1 := Gr.new 1000
  have g2 : Gr wk2 ([(0, [], [])] ++ [dat (newOb 7 1 2 false 1)]) := g1.more (fun i hi => by
    rcases hi with hi | ⟨_, hi⟩
    · exact absurd hi List.not_mem_nil
    · exact absurd hi List.not_mem_nil) (newOb 7 1 2 false 1) rfl fun i hi => addS_is hi
  have g3 : Gr wk3 _ := g2.put 1 (setO wk2 1 2 99) (by decide)
  exact g3.roots _
theorem wk_end {M5 : Hp} (wf4 : HpWf wk4) (h : IsColl wk4 M5) (wf6 : HpWf (fitM M5 0)) : handR (fitM M5 0) 1 = some 1 ∧ getM (fitM M5 0) (refW (fitM M5 0) 1) 2 = (99, 0) ∧ refW (fitM M5 0) 1 < 18446744073709551616 := by
  have g := (wk_gr.coll wf4 h).fit 0
  have hr : (fitM M5 0).roots = [some 1] := by
    rw [(fitM_objs M5 0).2.1, h.nums.2.2.2.2.1]
    rfl
  have his : Is (fitM M5 0) 1 := by
    rcases wf6.ok.rt 1 (by rw [hr]; exact List.mem_cons_self) with e | e
    · cases e
    · exact e
  obtain ⟨n1, n2, n3⟩ := num_back wf6.ok his
  have hd := g.dt 1 his
  have hd' : (7, [0], [0, 99]) = dat (ob (fitM M5 0) 1) := hd
  have e2 : (ob (fitM M5 0) 1).refs = [0] := (congrArg (fun x => x.2.1) hd').symm
  have e3 : (ob (fitM M5 0) 1).raws = [0, 99] := (congrArg (fun x => x.2.2) hd').symm
  refine ⟨?_, ?_, n2⟩
  · unfold handR
    rw [hr]
    rfl
  · unfold getM fldM
    rw [n1, if_neg (by decide), e2, e3]
    rfl

theorem wakes_any (w : World) : Calls Tryz.prog 9 #[] w fun e w' => e = .returned (.bool true) ∧ Below w.heap.size w w' := by
  have H1 : Hid (Calls Tryz.prog 24 #[.int .i64 1000] w fun e w' => ∃ ph tag H, e = .returned (.tuple #[.pointer (some ⟨ph, 0, none⟩), .int .i64 0]) ∧ HAt w' ph tag (newM 1000) H ∧ Own0 w w' tag) := hide ((hnew_any 1000 (by omega) (by omega)).mono fun e w' ⟨ph, tag, H, h1, h2, h3, h4⟩ => ⟨ph, tag, H, h1, h2, ⟨h4, fun g hg => by
    by_cases q : tag g = 0
    · exact q
    · have := h3 g q; omega⟩⟩)
  have H2 : Hid (∀ W ph tag H, HAt W ph tag (newM 1000) H → Own0 w W tag → Calls Tryz.prog 25 #[.pointer (some ⟨ph, 0, none⟩), .int .i64 7, .int .i64 1, .int .i64 2] W fun e w' => e = .returned (.tuple #[.int .u64 1, .int .i64 0]) ∧ ∃ tag' H', HAt w' ph tag' wk2 H' ∧ Own0 w w' tag') := hide (fun W ph tag H h o => (halloc_any h (by decide) (by decide) (by decide) (by decide) 7 1 2 (by unfold Fits; decide)).mono fun e w' ⟨tag', H', M', v, x, h1, h2, h3, h4⟩ => by
    obtain ⟨rfl, rfl, rfl⟩ := h1.one wk_alloc
    exact ⟨h3, tag', H', h4, o.fr h2⟩)
  have H3 : Hid (∀ W ph tag H, HAt W ph tag wk2 H → Own0 w W tag → Calls Tryz.prog 26 #[.pointer (some ⟨ph, 0, none⟩), .int .u64 1, .int .i64 2, .int .u64 99] W fun e w' => e = .returned (.int .i64 0) ∧ ∃ H', HAt w' ph tag wk3 H' ∧ Own0 w w' tag) := hide (fun W ph tag H h o => (hset_any h 1 (by omega) 2 99 (by omega)).mono fun e w' ⟨h1, H', h2, h3⟩ => by
    rw [wk_set] at h1 h2
    exact ⟨h1, H', h2, o.fr h3⟩)
  have H4 : Hid (∀ W ph tag H, HAt W ph tag wk3 H → Own0 w W tag → Calls Tryz.prog 27 #[.pointer (some ⟨ph, 0, none⟩), .int .u64 1] W fun e w' => e = .returned (.tuple #[.int .i64 1, .int .i64 0]) ∧ ∃ tag' H', HAt w' ph tag' wk4 H' ∧ Own0 w w' tag') := hide (fun W ph tag H h o => (hrootM_yes h (by decide) 1 (by omega) wk_may).mono fun e w' ⟨n, tag', H', h1, h2, h3, h4⟩ => by
    obtain rfl := h2.one wk_low
    exact ⟨h1, tag', H', h3, o.fr h4⟩)
  have H5 : Hid (∀ W ph tag H, HAt W ph tag wk4 H → Own0 w W tag → Calls Tryz.prog 14 #[.pointer (some ⟨ph, 0, none⟩)] W fun e w' => e = .returned (.tuple #[]) ∧ ∃ tag' H' M r, HAt w' ph tag' M H' ∧ Own0 w w' tag' ∧ handR M 1 = some 1 ∧ refW M 1 = r ∧ getM M r 2 = (99, 0) ∧ r < 18446744073709551616) := hide (fun W ph tag H h o => (hcollect_any h (by decide) (by decide)).mono fun e w' ⟨h1, tag', H', M', h2, h3, h4⟩ => by
    obtain ⟨q1, q2, q3⟩ := wk_end h.wf h2 h3.wf
    exact ⟨h1, tag', H', _, _, h3, o.fr h4, q1, rfl, q2, q3⟩)
  have H6 : Hid (∀ W ph tag H M (r : Nat), HAt W ph tag M H → Own0 w W tag → handR M 1 = some 1 → refW M 1 = r → Calls Tryz.prog 28 #[.pointer (some ⟨ph, 0, none⟩), .int .i64 1] W fun e w' => e = .returned (.tuple #[.int .u64 (r : Nat), .int .i64 0]) ∧ HAt w' ph tag M H ∧ Own0 w w' tag) := hide (fun W ph tag H M r h o e1 e2 => (hatM_any h 1 (by omega) (by omega)).mono fun e w' ⟨h1, h2⟩ => by
    rw [e1] at h1
    subst e2
    exact ⟨h1, h.still h2, o.below h2⟩)
  have H7 : Hid (∀ W ph tag H M (r : Nat), HAt W ph tag M H → Own0 w W tag → getM M r 2 = (99, 0) → r < 18446744073709551616 → Calls Tryz.prog 29 #[.pointer (some ⟨ph, 0, none⟩), .int .u64 (r : Nat), .int .i64 2] W fun e w' => e = .returned (.tuple #[.int .u64 99, .int .i64 0]) ∧ Below w.heap.size w w') := hide (fun W ph tag H M r h o e1 e2 => (hget_any h r e2 2).mono fun e w' ⟨h1, h2⟩ => by
    rw [e1] at h1
    exact ⟨h1, (o.below h2).be⟩)
  go_enter Tryz.func9, Tryz.ntmps9
  go_wp2_with fail
  refine (unhide H1).mono ?_
  clear H1
  rintro e w1 ⟨ph, tag, H, rfl, h1, o1⟩
  have K2 := hide (unhide H2 w1 ph tag H h1 o1)
  clear H2 h1 o1
  go_wp2_with fail
  refine (unhide K2).mono ?_
  clear K2
  rintro e w2 ⟨rfl, tag2, G2, h2, o2⟩
  have K3 := hide (unhide H3 w2 ph tag2 G2 h2 o2)
  clear H3 h2 o2
  go_wp2_with fail
  refine (unhide K3).mono ?_
  clear K3
  rintro e w3 ⟨rfl, G3, h3, o3⟩
  have K4 := hide (unhide H4 w3 ph tag2 G3 h3 o3)
  clear H4 h3 o3
  go_wp2_with fail
  refine (unhide K4).mono ?_
  clear K4
  rintro e w4 ⟨rfl, tag4, G4, h4, o4⟩
  have K5 := hide (unhide H5 w4 ph tag4 G4 h4 o4)
  clear H5 h4 o4
  go_wp2_with fail
  refine (unhide K5).mono ?_
  clear K5
  rintro e w5 ⟨rfl, tag5, G5, M, r, h5, o5, q1, q2, q3, q4⟩
  have K6 := hide (unhide H6 w5 ph tag5 G5 M r h5 o5 q1 q2)
  have Q := hide (And.intro q3 q4)
  clear H6 h5 o5 q1 q2 q3 q4
  go_wp2_with fail
  refine (unhide K6).mono ?_
  clear K6
  rintro e w6 ⟨rfl, h6, o6⟩
  have K7 := hide (unhide H7 w6 ph tag5 G5 M r h6 o6 (unhide Q).1 (unhide Q).2)
  clear H7 h6 o6 Q
  go_wp2_with fail
  refine (unhide K7).mono ?_
  clear K7
  rintro e w7 ⟨rfl, hb⟩
  go_wp2
  go_ret
  exact ⟨rfl, hb⟩
end Go.Proofs.YtidfllgaeiopjaaGreat
namespace Go.Proofs.YtidfllgaeiopjaaGreat
open Go.ChangeShapes Go.WideShapes Go.ChangeAt Go.RowKit
set_option linter.unusedVariables false
set_option maxRecDepth 100000
set_option maxHeartbeats 1000000

theorem begins_bad {w : World} {n : Int} (h : n < 128 ∨ 1048576 < n) :
    Calls Tryz.prog 11 #[.int .i64 n] w fun e w' => e = .returned (.tuple #[.pointer none, .bool true]) ∧ w' = w := by
  have H1 := hide (hnew_bad (w := w) h)
  by_cases h1 : n < 128
  · have d1 : decide (128 ≤ n) = false := decide_eq_false (by omega)
    clear h
    go_enter Tryz.func11, Tryz.ntmps11
    go_wp2_with fail
    refine (unhide H1).mono ?_
    clear H1
    rintro e w1 ⟨rfl, rfl⟩
    go_wp2
    go_ret2
    exact ⟨rfl, rfl⟩
  · have d1 : decide (128 ≤ n) = true := decide_eq_true (by omega)
    have d2 : decide (n ≤ 1048576) = false := decide_eq_false (by omega)
    clear h
    go_enter Tryz.func11, Tryz.ntmps11
    go_wp2_with fail
    refine (unhide H1).mono ?_
    clear H1
    rintro e w1 ⟨rfl, rfl⟩
    go_wp2
    go_ret2
    exact ⟨rfl, rfl⟩

theorem round_any {w : World} (a : Int) (n : Nat) (h0 : 0 < n) (hn : n ≤ 1000000000) :
    Calls Tryz.prog 58 #[.int .i64 a, .int .i64 (n : Nat)] w fun e w' => e = .returned (.int .i64 (a % (n : Nat))) ∧ w' = w := by
  have hz : (n : Int) ≠ 0 := by omega
  obtain ⟨k, hk⟩ : ∃ k, a.tmod (n : Nat) = k := ⟨_, rfl⟩
  have hkn : k < (n : Nat) ∧ -(n : Int) < k := by
    subst hk
    have h1 := Int.tmod_lt_of_pos a (b := (n : Nat)) (by omega)
    have h2 := Int.tmod_lt_of_pos (-a) (b := (n : Nat)) (by omega)
    rw [Int.neg_tmod] at h2
    omega
  have w1 : IntKind.i64.wrap k = k := wrap_small _ (by omega) (by omega)
  have he : a % (n : Nat) = if k < 0 then k + n else k := by
    subst hk
    have h1 := Int.tmod_add_mul_tdiv a (n : Nat)
    have h2 := Int.emod_add_mul_ediv a (n : Nat)
    split
    · rename_i q
      have h3 : ((a.tmod (n : Nat)) + n) % (n : Nat) = a % (n : Nat) := by
        rw [Int.add_emod_right]
        conv => rhs; rw [← h1]
        rw [Int.add_mul_emod_self_left]
      rw [← h3, Int.emod_eq_of_lt (by omega) (by omega)]
    · rename_i q
      have h3 : (a.tmod (n : Nat)) % (n : Nat) = a % (n : Nat) := by
        conv => rhs; rw [← h1]
        rw [Int.add_mul_emod_self_left]
      rw [← h3, Int.emod_eq_of_lt (by omega) (by omega)]
  rw [he]
  clear he
  by_cases hneg : k < 0
  · have d1 : decide (k < 0) = true := decide_eq_true hneg
    have w2 : IntKind.i64.wrap (k + (n : Nat)) = k + (n : Nat) := wrap_small _ (by omega) (by omega)
    rw [if_pos hneg]
    go_enter Tryz.func58, Tryz.ntmps58
    go_wp2
    go_ret
    exact ⟨rfl, rfl⟩
  · have d1 : decide (k < 0) = false := decide_eq_false hneg
    rw [if_neg hneg]
    go_enter Tryz.func58, Tryz.ntmps58
    go_wp2
    go_ret
    exact ⟨rfl, rfl⟩
end Go.Proofs.YtidfllgaeiopjaaGreat
namespace Go.Proofs.YtidfllgaeiopjaaGreat
open Go.ChangeShapes Go.WideShapes Go.ChangeAt Go.RowKit
set_option linter.unusedVariables false
set_option maxRecDepth 100000
set_option maxHeartbeats 1000000

/-- what a handle holds, as the shadow has it -/
def hval : Option Nat → Int
  | none => -1
  | some i => (i : Nat)
structure ShC where
  vN : Value
  vH : Value
  rf : Nat → Value
  rw : Nat → Value
def ndField (C : ShC) (ns : List (Nat × List Nat × List Nat)) (j c : Nat) : Value := if c = 0 then .int .i64 ((ns.getD j (0, [], [])).1 : Nat) else if c = 1 then C.rf j else C.rw j
def ndCell (C : ShC) (ns : List (Nat × List Nat × List Nat)) (i : Nat) : Value := ndField C ns (i / 3) (i % 3)

/-- the shadow at ps: its heap's address, the graph, the handles, the limit, the last errno; st: whose block is whose (1 struct, 2 nodes, 3 hands, 4 + 2 j refs of node j, 5 + 2 j its raws) -/
structure ShAt (w : World) (ps ph : Nat) (st : Nat → Nat) (ns : List (Nat × List Nat × List Nat)) (hd : List (Option Nat)) (limit last : Nat) (C : ShC) : Prop where
  c0 : w.cell? ⟨ps, 0, none⟩ = some (.pointer (some ⟨ph, 0, none⟩))
  c1 : w.cell? ⟨ps, 1, none⟩ = some C.vN
  c2 : w.cell? ⟨ps, 2, none⟩ = some C.vH
  c3 : w.cell? ⟨ps, 3, none⟩ = some (.int .i64 (limit : Nat))
  c4 : w.cell? ⟨ps, 4, none⟩ = some (.int .i64 (last : Nat))
  fz : ∀ i, i < 5 → w.frozen? ⟨ps, i, none⟩ = false
  nd : Wide w 69 3 C.vN ns.length (ndCell C ns)
  hn : Line w 3 C.vH hd.length (fun j => .int .i64 (hval (hd.getD j none)))
  rf : ∀ j, j < ns.length → Line w 3 (C.rf j) (ns.getD j (0, [], [])).2.1.length (fun k => .int .i64 ((ns.getD j (0, [], [])).2.1.getD k 0 : Nat))
  rw : ∀ j, j < ns.length → Line w 30 (C.rw j) (ns.getD j (0, [], [])).2.2.length (fun k => .int .u64 ((ns.getD j (0, [], [])).2.2.getD k 0 : Nat))
  t1 : st ps = 1
  t2 : ∀ g, C.vN.ownBlock = some g → st g = 2
  t3 : ∀ g, C.vH.ownBlock = some g → st g = 3
  t4 : ∀ j g, j < ns.length → (C.rf j).ownBlock = some g → st g = 4 + 2 * j
  t5 : ∀ j g, j < ns.length → (C.rw j).ownBlock = some g → st g = 5 + 2 * j
  un : ∀ g, st g ≠ 0 → g < w.heap.size

theorem ShAt.same {w w' : World} {ps ph : Nat} {st : Nat → Nat} {ns : List (Nat × List Nat × List Nat)} {hd : List (Option Nat)} {limit last : Nat} {C : ShC} (h : ShAt w ps ph st ns hd limit last C) (hs : w.heap.size ≤ w'.heap.size) (hb : ∀ g, st g ≠ 0 → w'.heap[g]? = w.heap[g]?) : ShAt w' ps ph st ns hd limit last C := by
  have hp := hb ps (by rw [h.t1]; decide)
  exact {
    c0 := (cell_like hp _).trans h.c0, c1 := (cell_like hp _).trans h.c1, c2 := (cell_like hp _).trans h.c2, c3 := (cell_like hp _).trans h.c3, c4 := (cell_like hp _).trans h.c4
    fz := fun i hi => (froz_like hp _).trans (h.fz i hi)
    nd := h.nd.same fun g e => hb g (by rw [h.t2 g e]; decide)
    hn := h.hn.same fun g e => hb g (by rw [h.t3 g e]; decide)
    rf := fun j hj => (h.rf j hj).same fun g e => hb g (by rw [h.t4 j g hj e]; omega)
    rw := fun j hj => (h.rw j hj).same fun g e => hb g (by rw [h.t5 j g hj e]; omega)
    t1 := h.t1, t2 := h.t2, t3 := h.t3, t4 := h.t4, t5 := h.t5
    un := fun g e => Nat.lt_of_lt_of_le (h.un g e) hs }

/-- what is kept: all that lies in w, and the blocks of K as they are in v -/
structure Kp where
  w : World
  v : World
  K : Nat → Prop
structure OwnK (k : Kp) (w : World) (tag : Nat → Nat) : Prop where
  be : Below k.w.heap.size k.w w
  tg : ∀ g, g < k.w.heap.size ∨ k.K g → tag g = 0
  kp : ∀ g, k.K g → g < w.heap.size ∧ w.heap[g]? = k.v.heap[g]?
theorem OwnK.fr {k : Kp} {w w' : World} {tag tag' : Nat → Nat} (h : OwnK k w tag) (f : Fr tag tag' w w') : OwnK k w' tag' := by
  have hl : ∀ g, g < k.w.heap.size ∨ k.K g → g < w.heap.size := fun g q => by
    rcases q with q | q
    · exact Nat.lt_of_lt_of_le q h.be.size
    · exact (h.kp g q).1
  exact ⟨⟨f.os.trans h.be.os, f.tape.trans h.be.tape, f.output.trans h.be.output, Nat.le_trans h.be.size f.size, fun g hg => (f.blk g (hl g (.inl hg)) (h.tg g (.inl hg))).1.trans (h.be.block g hg)⟩, fun g q => (f.blk g (hl g q) (h.tg g q)).2, fun g q => ⟨Nat.lt_of_lt_of_le (h.kp g q).1 f.size, (f.blk g (hl g (.inr q)) (h.tg g (.inr q))).1.trans (h.kp g q).2⟩⟩
theorem OwnK.below {k : Kp} {w w' : World} {tag : Nat → Nat} (h : OwnK k w tag) (q : Below w.heap.size w w') : OwnK k w' tag := ⟨h.be.trans (q.mono h.be.size), h.tg, fun g hg => ⟨Nat.lt_of_lt_of_le (h.kp g hg).1 q.size, (q.block g (h.kp g hg).1).trans (h.kp g hg).2⟩⟩

/-- the heap and its shadow side by side, over what was there in w0 -/
structure Both0 (w0 : Kp) (w : World) (ps ph : Nat) (tag st : Nat → Nat) (M : Hp) (H : HC) (ns : List (Nat × List Nat × List Nat)) (limit last : Nat) (C : ShC) : Prop where
  he : HAt w ph tag M H
  sh : ShAt w ps ph st ns M.roots limit last C
  gr : Gr M ns
  li : M.limit = limit
  o1 : OwnK w0 w tag
  o2 : OwnK w0 w st
  ap : ∀ g, st g ≠ 0 → tag g = 0

/-- a call of the heap's leaves the shadow as it is -/
theorem Both0.heap {w0 : Kp} {w w' : World} {ps ph : Nat} {tag tag' st : Nat → Nat} {M M' : Hp} {H H' : HC} {ns : List (Nat × List Nat × List Nat)} {limit last : Nat} {C : ShC} (b : Both0 w0 w ps ph tag st M H ns limit last C) (f : Fr tag tag' w w') (h : HAt w' ph tag' M' H') (g : Gr M' ns) (er : M'.roots = M.roots) (el : M'.limit = M.limit) : Both0 w0 w' ps ph tag' st M' H' ns limit last C := by
  have hb : ∀ g, st g ≠ 0 → w'.heap[g]? = w.heap[g]? ∧ tag' g = 0 := fun g e => f.blk g (b.sh.un g e) (b.ap g e)
  exact ⟨h, by rw [er]; exact b.sh.same f.size fun g e => (hb g e).1, g, el.trans b.li, b.o1.fr f, ⟨(b.o1.fr f).be, b.o2.tg, (b.o1.fr f).kp⟩, fun g e => (hb g e).2⟩

theorem begins_walk {w : World} {n : Nat} (h1 : 128 ≤ n) (h2 : n ≤ 1048576) {G : Nat → World → Prop}
    (HN : Calls Tryz.prog 24 #[.int .i64 (n : Nat)] w fun e w' => ∃ ph, e = .returned (.tuple #[.pointer (some ⟨ph, 0, none⟩), .int .i64 0]) ∧ G ph w') :
    Calls Tryz.prog 11 #[.int .i64 (n : Nat)] w fun e w' => ∃ ph w1, G ph w1 ∧ e = .returned (.tuple #[.pointer (some ⟨w1.heap.size + 1, 0, none⟩), .bool true]) ∧ w' = (w1.alloc (.cells #[.int .i64 0, .slice none 0 0, .slice none 0 0] 69)).alloc (.cells #[.pointer (some ⟨ph, 0, none⟩), .slice (some ⟨w1.heap.size, 0, none⟩) 1 1, .slice none 0 0, .int .i64 (n : Nat), .int .i64 0] 43) := by
  have H1 := hide HN
  have d1 : decide ((128 : Int) ≤ (n : Nat)) = true := decide_eq_true (by omega)
  have d2 : decide ((n : Int) ≤ 1048576) = true := decide_eq_true (by omega)
  clear HN
  go_enter Tryz.func11, Tryz.ntmps11
  go_wp2_with fail
  refine (unhide H1).mono ?_
  clear H1
  rintro e w1 ⟨ph, rfl, hg⟩
  go_wp2
  go_ret2
  exact ⟨ph, w1, hg, rfl, rfl⟩

theorem begins_any {w : World} (n : Nat) (h1 : 128 ≤ n) (h2 : n ≤ 1048576) :
    Calls Tryz.prog 11 #[.int .i64 (n : Nat)] w fun e w' => ∃ ps ph tag st H C, e = .returned (.tuple #[.pointer (some ⟨ps, 0, none⟩), .bool true]) ∧ Both0 ⟨w, w, fun _ => False⟩ w' ps ph tag st (newM n) H [(0, [], [])] n 0 C := by
  refine (begins_walk h1 h2 (G := fun ph W => ∃ tag H, HAt W ph tag (newM n) H ∧ Own0 w W tag) ((hnew_any n h1 h2).mono fun e w' ⟨ph, tag, H, a1, a2, a3, a4⟩ => ⟨ph, a1, tag, H, a2, ⟨a4, fun g hg => by
    by_cases q : tag g = 0
    · exact q
    · have := a3 g q; omega⟩⟩)).mono ?_
  rintro e w' ⟨ph, w1, ⟨tag, H, hh, ho⟩, rfl, rfl⟩
  generalize hO1 : (Obj.cells #[.int .i64 0, .slice none 0 0, .slice none 0 0] 69) = O1
  generalize hO2 : (Obj.cells #[.pointer (some ⟨ph, 0, none⟩), .slice (some ⟨w1.heap.size, 0, none⟩) 1 1, .slice none 0 0, .int .i64 (n : Nat), .int .i64 0] 43) = O2
  have k1 : Below w1.heap.size w1 ((w1.alloc O1).alloc O2) := ((Below.refl _ _).alloc (Nat.le_refl _) _).alloc (by simp) _
  have hz : ((w1.alloc O1).alloc O2).heap.size = w1.heap.size + 2 := by simp
  have g1 : ((w1.alloc O1).alloc O2).heap[w1.heap.size]? = some O1 := by
    have : Below (w1.alloc O1).heap.size (w1.alloc O1) ((w1.alloc O1).alloc O2) := (Below.refl _ _).alloc (Nat.le_refl _) _
    rw [this.block w1.heap.size (by simp)]
    exact heap_alloc_new _ _
  have g2 : ((w1.alloc O1).alloc O2).heap[w1.heap.size + 1]? = some O2 := heap_alloc2_new _ _ _
  have hw := ho.be.size
  have hnn : ∀ g, (Value.slice none 0 0).ownBlock ≠ some g := fun g => by simp [Value.ownBlock]
  have hc : ∀ i v, #[Value.pointer (some ⟨ph, 0, none⟩), .slice (some ⟨w1.heap.size, 0, none⟩) 1 1, .slice none 0 0, .int .i64 (n : Nat), .int .i64 0][i]? = some v → ((w1.alloc O1).alloc O2).cell? ⟨w1.heap.size + 1, i, none⟩ = some v := fun i v hv => by
    simp only [World.cell?, g2]
    rw [← hO2]
    exact hv
  have T0 : ∀ g, (if g = w1.heap.size + 1 then 1 else if g = w1.heap.size then 2 else 0) ≠ 0 → w1.heap.size ≤ g ∧ g < w1.heap.size + 2 := fun g e => by
    by_cases q : g = w1.heap.size + 1
    · omega
    · rw [if_neg q] at e
      by_cases q2 : g = w1.heap.size
      · omega
      · rw [if_neg q2] at e; exact absurd rfl e
  have hj0 : ∀ j, j < [((0 : Nat), ([] : List Nat), ([] : List Nat))].length → j = 0 := fun j hj => by simp at hj; exact hj
  refine ⟨w1.heap.size + 1, ph, tag, (fun g => if g = w1.heap.size + 1 then 1 else if g = w1.heap.size then 2 else 0), H, ⟨.slice (some ⟨w1.heap.size, 0, none⟩) 1 1, .slice none 0 0, fun _ => .slice none 0 0, fun _ => .slice none 0 0⟩, rfl, ⟨hh.still k1, ?_, Gr.new n, rfl, ⟨(ho.below k1).be, fun g hg => (ho.below k1).tg g (hg.elim id False.elim), fun g hg => hg.elim⟩, ⟨(ho.below k1).be, fun g hg0 => ?_, fun g hg => hg.elim⟩, fun g e => ?_⟩⟩
  · exact {
      c0 := hc 0 _ rfl, c1 := hc 1 _ rfl, c2 := hc 2 _ rfl, c3 := hc 3 _ rfl, c4 := hc 4 _ rfl
      fz := fun i _ => by
        simp only [World.frozen?, g2]
        rw [← hO2]
        show (decide ((0 : Nat) ≤ i) && decide (i < 0)) = false
        simp
      nd := .inr ⟨w1.heap.size, 1, #[.int .i64 0, .slice none 0 0, .slice none 0 0], rfl, by rw [g1, ← hO1], Nat.le_refl _, by decide, rfl, fun j hj => by
        have hj3 : j < 3 := hj
        rcases (by omega : j = 0 ∨ j = 1 ∨ j = 2) with rfl | rfl | rfl <;> rfl⟩
      hn := .inl ⟨rfl, rfl⟩
      rf := fun j hj => by obtain rfl := hj0 j hj; exact .inl ⟨rfl, rfl⟩
      rw := fun j hj => by obtain rfl := hj0 j hj; exact .inl ⟨rfl, rfl⟩
      t1 := if_pos rfl
      t2 := fun g e => by
        have e' : w1.heap.size = g := by simpa [Value.ownBlock] using e
        subst e'
        show (if w1.heap.size = w1.heap.size + 1 then 1 else if w1.heap.size = w1.heap.size then 2 else 0) = 2
        rw [if_neg (by omega), if_pos rfl]
      t3 := fun g e => absurd e (hnn g)
      t4 := fun j g _ e => absurd e (hnn g)
      t5 := fun j g _ e => absurd e (hnn g)
      un := fun g e => by rw [hz]; exact (T0 g e).2 }
  · have hg : g < w.heap.size := hg0.elim id False.elim
    by_cases q : (if g = w1.heap.size + 1 then 1 else if g = w1.heap.size then 2 else 0) = 0
    · exact q
    · have := T0 g q; omega
  · have := (T0 g e).1
    by_cases q : tag g = 0
    · exact q
    · have := hh.raw.un g q; omega
end Go.Proofs.YtidfllgaeiopjaaGreat
namespace Go.Proofs.YtidfllgaeiopjaaGreat
open Go.ChangeShapes Go.WideShapes Go.ChangeAt Go.RowKit
set_option linter.unusedVariables false
set_option maxRecDepth 100000
set_option maxHeartbeats 1000000

def handN (n : Nat) (h : Int) : Int := if n = 0 then 0 else 1 + h % (n : Nat)
theorem hand_any {w : World} {ps ph : Nat} {st : Nat → Nat} {ns : List (Nat × List Nat × List Nat)} {hd : List (Option Nat)} {limit last : Nat} {C : ShC} (s : ShAt w ps ph st ns hd limit last C) (hl : hd.length ≤ 1000000) (h : Int) :
    Calls Tryz.prog 30 #[.pointer (some ⟨ps, 0, none⟩), .int .i64 h] w fun e w' => e = .returned (.int .i64 (handN hd.length h)) ∧ Still w w' := by
  obtain ⟨a, cap, hv⟩ := s.hn.shape
  have c2 := s.c2
  rw [hv] at c2
  clear s hv
  obtain ⟨n, hn⟩ : ∃ n, hd.length = n := ⟨_, rfl⟩
  rw [hn] at c2 hl ⊢
  clear hn
  by_cases h0 : n = 0
  · subst h0
    go_enter Tryz.func30, Tryz.ntmps30
    go_wp2
    go_ret
    exact ⟨rfl, Still.refl _⟩
  · have H1 : Hid (∀ W, Calls Tryz.prog 58 #[.int .i64 h, .int .i64 (n : Nat)] W fun e w' => e = .returned (.int .i64 (h % (n : Nat))) ∧ w' = W) := hide (fun W => round_any h n (by omega) (by omega))
    have d1 : decide ((n : Int) = 0) = false := decide_eq_false (by omega)
    have b1 : 0 ≤ h % (n : Nat) := Int.emod_nonneg _ (by omega)
    have b2 : h % (n : Nat) < (n : Nat) := Int.emod_lt_of_pos _ (by omega)
    have e : handN n h = 1 + h % (n : Nat) := if_neg h0
    rw [e]
    clear e
    obtain ⟨k, hk⟩ : ∃ k, h % (n : Nat) = k := ⟨_, rfl⟩
    rw [hk] at b1 b2 H1 ⊢
    have w1 : IntKind.i64.wrap (1 + k) = 1 + k := wrap_small _ (by omega) (by omega)
    clear hk b1 b2
    go_enter Tryz.func30, Tryz.ntmps30
    go_wp2_with fail
    refine (unhide H1 _).mono ?_
    clear H1
    rintro e w2 ⟨rfl, rfl⟩
    go_wp2
    go_ret
    exact ⟨rfl, Still.refl _⟩

def heldV (hd : List (Option Nat)) (n : Int) : Int := if 1 ≤ n ∧ n ≤ (hd.length : Nat) then hval (hd.getD (n - 1).toNat none) else -1
theorem held_any {w : World} {ps ph : Nat} {st : Nat → Nat} {ns : List (Nat × List Nat × List Nat)} {hd : List (Option Nat)} {limit last : Nat} {C : ShC} (s : ShAt w ps ph st ns hd limit last C) (hl : hd.length ≤ 1000000) (n : Int) :
    Calls Tryz.prog 33 #[.pointer (some ⟨ps, 0, none⟩), .int .i64 n] w fun e w' => e = .returned (.int .i64 (heldV hd n)) ∧ Still w w' := by
  obtain ⟨a, cap, hv⟩ := s.hn.shape
  have c2 := s.c2
  rw [hv] at c2
  unfold heldV
  by_cases h1 : n < 1
  · have d1 : decide (n < 1) = true := decide_eq_true h1
    rw [if_neg (by omega)]
    clear s hv
    go_enter Tryz.func33, Tryz.ntmps33
    go_wp2
    go_ret
    exact ⟨rfl, Still.refl _⟩
  · have d1 : decide (n < 1) = false := decide_eq_false h1
    by_cases h2 : (hd.length : Int) < n
    · have d2 : decide ((hd.length : Int) < n) = true := decide_eq_true h2
      rw [if_neg (by omega)]
      clear s hv
      go_enter Tryz.func33, Tryz.ntmps33
      go_wp2
      go_ret
      exact ⟨rfl, Still.refl _⟩
    · have d2 : decide ((hd.length : Int) < n) = false := decide_eq_false h2
      rw [if_pos (by omega)]
      obtain ⟨m, rfl⟩ : ∃ m : Nat, n = (m : Int) + 1 := ⟨(n - 1).toNat, by omega⟩
      have hm : m < hd.length := by omega
      obtain ⟨g, cap', e1, _, hcell⟩ := s.hn.at (by omega)
      rw [hv] at e1
      cases e1
      have e0 := (hcell m hm).1
      have w1 : IntKind.i64.wrap ((m : Int) + 1 - 1) = (m : Nat) := by rw [show (m : Int) + 1 - 1 = (m : Nat) by omega]; exact wrap_small _ (by omega) (by omega)
      have d3 : decide ((m : Int) < (hd.length : Nat)) = true := decide_eq_true (by omega)
      have t1 : ((m : Int) + 1 - 1).toNat = m := by omega
      rw [t1]
      clear s hv hcell
      go_enter Tryz.func33, Tryz.ntmps33
      go_wp2
      go_ret
      exact ⟨rfl, Still.refl _⟩
end Go.Proofs.YtidfllgaeiopjaaGreat
namespace Go.Proofs.YtidfllgaeiopjaaGreat
open Go.ChangeShapes Go.WideShapes Go.ChangeAt Go.RowKit
set_option linter.unusedVariables false
set_option maxRecDepth 100000
set_option maxHeartbeats 1000000

/-- give finds a free handle -/
theorem give_found {w : World} {ps g n cap id N : Nat} (hN : n < N) (hl : N ≤ 1000000) (f : Nat → Int) (c2 : w.cell? ⟨ps, 2, none⟩ = some (.slice (some ⟨g, 0, none⟩) N cap)) (hc : ∀ j, j < N → w.cell? ⟨g, j, none⟩ = some (.int .i64 (f j))) (hz : w.frozen? ⟨g, n, none⟩ = false) (hf : f n < 0) (hlo : ∀ j, j < n → 0 ≤ f j) :
    Calls Tryz.prog 92 #[.pointer (some ⟨ps, 0, none⟩), .int .i64 (id : Nat)] w fun e w' => e = .returned (.int .i64 ((n : Int) + 1)) ∧ ∃ W, Still w W ∧ w' = W.setCell ⟨g, n, none⟩ (.int .i64 (id : Nat)) := by
  have HC := hide hc
  have HL := hide hlo
  clear hc hlo
  go_enter Tryz.func92, Tryz.ntmps92
  go_wp2_with fail
  go_loopw [5] (fun iv wr => ∃ i : Nat, iv = .int .i64 (i : Nat) ∧ i ≤ n ∧ Still w wr) (fun iv _ => n - (intOf iv).toNat)
  case atStart => exact ⟨0, rfl, Nat.zero_le _, Still.refl _⟩
  case round =>
    obtain ⟨i, rfl, hi, hk⟩ := hrel
    have c2' := (hk.cell _).trans c2
    have e0 := (hk.cell _).trans (unhide HC i (by omega))
    have dl : decide ((i : Int) < (N : Nat)) = true := decide_eq_true (by omega)
    have w1 : IntKind.i64.wrap ((i : Int) + 1) = (i : Int) + 1 := wrap_small _ (by omega) (by omega)
    by_cases hin : i = n
    · subst hin
      have dn : decide (f i < 0) = true := decide_eq_true hf
      have hz' : wr.frozen? ⟨g, i, none⟩ = false := by rw [← hz]; simp only [World.frozen?, hk.heap]
      have HK := hide hk
      clear hk c2 hz
      go_wp2
      go_ret
      exact ⟨rfl, wr, unhide HK, rfl⟩
    · have dn : decide (f i < 0) = false := decide_eq_false (by have := unhide HL i (by omega); omega)
      have HK := hide hk
      clear hk c2
      go_wp2
      all_goals go_roundw
      all_goals first | exact ⟨i + 1, by simp, by omega, unhide HK⟩ | (simp [intOf]; omega)
end Go.Proofs.YtidfllgaeiopjaaGreat
namespace Go.Proofs.YtidfllgaeiopjaaGreat
open Go.ChangeShapes Go.WideShapes Go.ChangeAt Go.RowKit
set_option linter.unusedVariables false
set_option maxRecDepth 100000
set_option maxHeartbeats 1000000

def addI (N : Nat) (f : Nat → Int) (id : Nat) : Nat → Value := fun j => if j < N then .int .i64 (f j) else .int .i64 (id : Nat)
theorem give_more {ps : Nat} {v : Value} {N id : Nat} (w : World) (f : Nat → Int) (hcell : w.cell? ⟨ps, 2, none⟩ = some v) (hfr : w.frozen? ⟨ps, 2, none⟩ = false) (hL : Line w 3 v N (fun j => .int .i64 (f j))) (hap : v.ownBlock ≠ some ps) (hlen : N ≤ 1000000) (hlo : ∀ j, j < N → 0 ≤ f j) :
    Calls Tryz.prog 92 #[.pointer (some ⟨ps, 0, none⟩), .int .i64 (id : Nat)] w fun e w' => e = .returned (.int .i64 ((N + 1 : Nat) : Int)) ∧ ∃ v', w'.cell? ⟨ps, 2, none⟩ = some v' ∧ Line w' 3 v' (N + 1) (addI N f id) ∧ v'.ownBlock ≠ some ps ∧ (∀ g, v'.ownBlock = some g → v.ownBlock = some g ∨ w.heap.size ≤ g) ∧ NChg ps 2 v w w' := by
  obtain ⟨i0, hi, hy0, hy1, hy2⟩ := info_parts Tryz.info3
  obtain ⟨a, cap, hv⟩ := hL.shape
  subst hv
  have HW : Hid (∀ wr, Still w wr → (Line (wr.alloc (.cells #[.int .i64 (id : Nat)] 3)) 3 (.slice a N cap) N (fun j => .int .i64 (f j))) ∧ (wr.alloc (.cells #[.int .i64 (id : Nat)] 3)).cell? ⟨ps, 2, none⟩ = some (.slice a N cap) ∧ (wr.alloc (.cells #[.int .i64 (id : Nat)] 3)).cell? ⟨wr.heap.size, 0, none⟩ = some (.int .i64 (id : Nat)) ∧
      ∀ v' w', Line w' 3 v' (N + 1) (fun j => if j < N then .int .i64 (f j) else .int .i64 (id : Nat)) → Grew 3 N (.int .i64 (id : Nat)) (wr.alloc (.cells #[.int .i64 (id : Nat)] 3)) w' (.slice a N cap) v' → w'.cell? ⟨ps, 2, none⟩ = some (.slice a N cap) ∧ w'.frozen? ⟨ps, 2, none⟩ = false ∧ (∃ a9 c9, v' = .slice a9 (N + 1) c9 ∧ (w'.setCell ⟨ps, 2, none⟩ (.slice a9 (N + 1) c9)).cell? ⟨ps, 2, none⟩ = some (.slice a9 (N + 1) c9)) ∧
      ∀ W, W.heap = (w'.setCell ⟨ps, 2, none⟩ v').heap → W.os = w'.os → W.tape = w'.tape → W.output = w'.output → ∃ v', W.cell? ⟨ps, 2, none⟩ = some v' ∧ Line W 3 v' (N + 1) (addI N f id) ∧ v'.ownBlock ≠ some ps ∧ (∀ g, v'.ownBlock = some g → (Value.slice a N cap).ownBlock = some g ∨ w.heap.size ≤ g) ∧ NChg ps 2 (.slice a N cap) w W) := hide (fun wr hk => by
    have hcell' := (hk.cell ⟨ps, 2, none⟩).trans hcell
    have hfr' : wr.frozen? ⟨ps, 2, none⟩ = false := by rw [← hfr]; simp only [World.frozen?, hk.heap]
    have hL' : Line wr 3 (.slice a N cap) N (fun j => .int .i64 (f j)) := hL.same fun g _ => by rw [hk.heap]
    have hbw : ps < wr.heap.size := by have := block_lt_of_cell hcell'; simpa using this
    have hbA : Below wr.heap.size wr (wr.alloc (.cells #[.int .i64 (id : Nat)] 3)) := (Below.refl _ _).alloc (Nat.le_refl _) _
    have hsz : wr.heap.size = w.heap.size := by rw [hk.heap]
    refine ⟨hL'.same (fun g hg => hbA.block g (hL'.lt g hg)), (hbA.cell (p := ⟨ps, 2, none⟩) hbw).trans hcell', cell_made rfl _ _, fun v' w' h1 h2 => ?_⟩
    obtain ⟨n1, n2, n3, n4⟩ := h2.nchg (o := 2) hbw hap hbA
    have hcc : w'.cell? ⟨ps, 2, none⟩ = some (.slice a N cap) := by rw [← hcell']; simp only [World.cell?, n4]
    obtain ⟨a9, c9, e9⟩ := h1.shape
    refine ⟨hcc, by rw [← hfr']; simp only [World.frozen?, n4], ⟨a9, c9, e9, World.cell?_setCell_same' w' ⟨ps, 2, none⟩ _ (by rw [hcc]; rfl)⟩, fun W eh e1 e2 e3 => ?_⟩
    have k1 := n1.set v'
    refine ⟨v', ?_, ?_, n2, fun g e => by rw [← hsz]; exact n3 g e, NChg.of_still hk ⟨⟨e1.trans k1.but.os, e2.trans k1.but.tape, e3.trans k1.but.output, by rw [eh]; exact k1.but.size, fun j hj hn => by rw [eh]; exact k1.but.block j hj hn⟩, fun k hk => ?_, fun k => ?_⟩⟩
    · have := World.cell?_setCell_same' w' ⟨ps, 2, none⟩ v' (by rw [hcc]; rfl)
      rw [← this]; simp only [World.cell?, eh]
    · exact h1.same (w' := W) (fun g hg => by rw [eh, setCell_else _ _ _ _ _ (by rintro rfl; exact n2 hg)])
    · rw [← k1.cell k hk]; simp only [World.cell?, eh]
    · rw [← k1.froz k]; simp only [World.frozen?, eh])
  have HC : Hid (∀ j, j < N → ∃ g, a = some ⟨g, 0, none⟩ ∧ w.cell? ⟨g, j, none⟩ = some (.int .i64 (f j))) := hide (fun j hj => by
    obtain ⟨g, cap', e1, _, hc⟩ := hL.at (by omega)
    cases e1
    exact ⟨g, rfl, (hc j hj).1⟩)
  have HL := hide hlo
  have HFr := hide hfr
  clear hL hap hlo hfr
  go_enter Tryz.func92, Tryz.ntmps92
  go_wp2_with fail
  go_loopw [5] (fun iv wr => ∃ i : Nat, iv = .int .i64 (i : Nat) ∧ i ≤ N ∧ Still w wr) (fun iv _ => N - (intOf iv).toNat)
  case atStart => exact ⟨0, rfl, Nat.zero_le _, Still.refl _⟩
  case round =>
    obtain ⟨i, rfl, hi', hk⟩ := hrel
    have c2' := (hk.cell _).trans hcell
    have w1 : IntKind.i64.wrap ((i : Int) + 1) = (i : Int) + 1 := wrap_small _ (by omega) (by omega)
    by_cases hin : i < N
    · obtain ⟨g, rfl, e0⟩ := unhide HC i hin
      have e0' := (hk.cell _).trans e0
      have dl : decide ((i : Int) < (N : Nat)) = true := decide_eq_true (by omega)
      have dn : decide (f i < 0) = false := decide_eq_false (by have := unhide HL i hin; omega)
      have HK := hide hk
      clear hk hcell e0 HW HC HFr
      go_wp2
      all_goals go_roundw
      all_goals first | exact ⟨i + 1, by simp, by omega, unhide HK⟩ | (simp [intOf]; omega)
    · have hiN : i = N := by omega
      subst hiN
      have dl : decide ((i : Int) < (i : Nat)) = false := decide_eq_false (by omega)
      obtain ⟨x1, cA, x2, x3⟩ := unhide HW wr hk
      have HROW := hide x1
      have C1 := hide x2
      have HFIN := hide x3
      clear x1 x2 x3 hk hcell HW HC HFr HL w1
      go_wp2_with (refine append_line rfl (.tmp 36) (.tmp 38) 40 rfl 3 i0 (.int .i64 0) 8 Tryz.underlying40 hi hy0 hy1 hy2 rfl (.slice a i cap) i _ (by simp [Act.eval]) (unhide HROW) wr.heap.size (by simp [Act.eval]) (.int .i64 (id : Nat)) (unhide C1) rfl (by omega) (by omega) ?_)
      intro v9 w9 hl9 hg9
      obtain ⟨k1, k2, ⟨a9, cp9, rfl, k3⟩, hst⟩ := unhide HFIN _ _ hl9 hg9
      clear hl9 hg9
      go_wp2
      go_ret
      exact ⟨rfl, hst _ rfl rfl rfl rfl⟩
end Go.Proofs.YtidfllgaeiopjaaGreat
