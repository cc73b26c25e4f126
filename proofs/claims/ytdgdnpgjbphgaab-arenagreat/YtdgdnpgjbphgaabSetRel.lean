/- SetBytes of both sides. -/
import Derived.Test.YtdgdnpgjbphgaabPCalls
namespace Go.Proofs.Ytdgdnpgjbphgaab
open Go.ChangeShapes Go.WideShapes Go.ChangeAt Go.RowKit
set_option linter.unusedVariables false
set_option maxRecDepth 100000
set_option maxHeartbeats 2000000

def rspan (R : RefSt) (at' from' n : Int) : Nat :=
  if (robj R at').2.2.2 ≠ 0 then (robj R at').2.2.2
  else if 0 ≤ from' ∧ 0 ≤ n ∧ from' + n ≤ 8 * ((robj R at').2.2.1 : Nat) then 0 else 25
theorem Rel.span {ws : List Nat} {hs : List Bool} {used : Nat} {R : RefSt} (h : Rel ws hs used R) (o : RefOk R) (at' from' n : Int) : spanErr ws hs used at' from' n = rspan R at' from' n := by
  unfold spanErr rspan
  rw [h.obj o]
theorem rspan_zero {R : RefSt} {at' from' : Int} {n : Nat} (h : rspan R at' from' n = 0) : ∃ j f : Nat, j < R.L.length ∧ at' = (place R.L j : Nat) ∧ from' = f ∧ R.Gn.getD j none = none ∧ f + n ≤ 8 * (R.L.getD j (0, 0, 0)).2.2 ∧ robj R at' = ((R.L.getD j (0, 0, 0)).1, (R.L.getD j (0, 0, 0)).2.1, (R.L.getD j (0, 0, 0)).2.2, 0) := by
  unfold rspan at h
  by_cases h0 : (robj R at').2.2.2 = 0
  · rw [if_neg (by simpa using h0)] at h
    obtain ⟨j, hj, rfl, hg, e⟩ := robj_zero h0
    rw [e] at h
    dsimp only at h
    by_cases h1 : 0 ≤ from' ∧ 0 ≤ (n : Int) ∧ from' + n ≤ 8 * ((R.L.getD j (0, 0, 0)).2.2 : Nat)
    · obtain ⟨f, rfl⟩ := Int.eq_ofNat_of_zero_le h1.1
      exact ⟨j, f, hj, rfl, rfl, hg, by omega, e⟩
    · rw [if_neg h1] at h; cases h
  · rw [if_pos h0] at h
    exact absurd h h0
theorem p_setbytes {p bw bh : Nat} {ws : List Nat} {hs : List Bool} {used : Nat} {R : RefSt} {w : World} (h : Ar w p bw bh ws hs used) (r : Rel ws hs used R) (o : RefOk R) (at' from' : Int) (l : List Nat) (a : Option Addr) (cap : Nat) (hf1 : from' ≤ 9223372036854775807) (hf2 : -9223372036854775808 ≤ from') (hB : Bytes w a l) (hsl : Small l) :
    Calls Try.prog 73 #[.pointer (some ⟨p, 0, none⟩), .int .i64 at', .int .i64 from', .slice a l.length cap] w fun e w' => e = .returned (.int .i64 (rspan R at' from' l.length : Nat)) ∧ But [p, bw, bh] w w' ∧ ∃ ws', Ar w' p bw bh ws' hs used ∧ (rspan R at' from' l.length ≠ 0 → ws' = ws) ∧ (rspan R at' from' l.length = 0 → ∀ j f : Nat, j < R.L.length → at' = (place R.L j : Nat) → from' = f → Written ws ws' (place R.L j + 1 + (R.L.getD j (0, 0, 0)).2.1) (R.L.getD j (0, 0, 0)).2.2 f l) := by
  by_cases he : rspan R at' from' l.length = 0
  · obtain ⟨j, f, hj, rfl, rfl, hg, hn, e2⟩ := rspan_zero he
    have hob := (r.obj o (place R.L j : Nat)).trans e2
    refine (setbytes_yes (place R.L j) f l a cap w h (r.sound o).heads (by rw [hob]) (by rw [hob]; exact hn) hB hsl).mono ?_
    rintro e w' ⟨ws', rfl, hA, hb, hW⟩
    rw [hob] at hW
    refine ⟨by rw [he]; rfl, hb.over (by simp), ws', hA, fun hne => absurd he hne, fun _ j2 f2 hj2 e3 e4 => ?_⟩
    have := place_inj R.L (Int.ofNat.inj e3)
    subst this
    have := Int.ofNat.inj e4
    subst this
    exact hW
  · refine (setbytes_no at' from' a l.length cap w hf1 hf2 h (r.sound o).heads _ (r.span o at' from' l.length).symm he).mono ?_
    rintro e w' ⟨rfl, hb⟩
    exact ⟨rfl, But.of_below hb, ws, h.below hb, fun _ => rfl, fun h0 => absurd h0 he⟩
theorem rsb_any {w : World} {pr r : Nat} {rt : Nat → Nat} {R : RefSt} (h : RefAt w pr r rt R) (un : ∀ g, rt g ≠ 0 → g < w.heap.size) (at' from' : Int) (l : List Nat) (a : Option Addr) (cap : Nat) (hB : Bytes w a l) (hsl : Small l) :
    Calls Try.prog 35 #[.pointer (some ⟨pr, 0, none⟩), .int .i64 at', .int .i64 from', .slice a l.length cap] w fun e w' => e = .returned (.int .i64 (rspan R at' from' l.length : Nat)) ∧ RChg (Mine r) rt rt w w' ∧ ((rspan R at' from' l.length ≠ 0 ∧ RefAt w' pr r rt R) ∨ ∃ j f : Nat, j < R.L.length ∧ at' = (place R.L j : Nat) ∧ from' = f ∧ f + l.length ≤ 8 * (R.L.getD j (0, 0, 0)).2.2 ∧ rspan R at' from' l.length = 0 ∧ RefAt w' pr r rt (R.fill j (Larder.packL (patch (rbyN R j) f l)) (R.L.getD j (0, 0, 0)).2.2)) := by
  by_cases he : rspan R at' from' l.length = 0
  · obtain ⟨j, f, hj, rfl, rfl, hg, hn, e2⟩ := rspan_zero he
    refine (rsb_yes h un j hj hg f l a cap hB hsl hn).mono ?_
    rintro e w' ⟨rfl, hc, hR⟩
    exact ⟨by rw [he]; rfl, hc, .inr ⟨j, f, hj, rfl, rfl, hn, he, hR⟩⟩
  · rcases at_cases R.L at' with ⟨j, hj, rfl⟩ | hno
    · cases hg : R.Gn.getD j none with
      | none =>
        have e0 := robj_none hj hg
        have e1 : rspan R (place R.L j : Nat) from' l.length = 25 := by
          unfold rspan at he ⊢
          rw [e0] at he ⊢
          rw [if_neg (by simp)] at he ⊢
          split at he
          · exact absurd rfl he
          · rename_i q; rw [if_neg q]
        refine (rsb_span h j hj hg from' a l.length cap (fun q => ?_)).mono ?_
        · unfold rspan at he
          rw [e0, if_neg (by simp), if_pos (by dsimp only; omega)] at he
          exact he rfl
        · rintro e w' ⟨rfl, hb⟩
          exact ⟨by rw [e1]; rfl, RChg.below un hb, .inl ⟨he, h.below hb⟩⟩
      | some t =>
        have e0 := robj_some hj hg
        have e1 : rspan R (place R.L j : Nat) from' l.length = 26 := by
          unfold rspan
          rw [e0, if_pos (by simp)]
        refine (rsb_gone h j t hj hg from' a l.length cap).mono ?_
        rintro e w' ⟨rfl, hs⟩
        exact ⟨by rw [e1]; rfl, RChg.below un hs.below, .inl ⟨he, h.still hs⟩⟩
    · have e0 := robj_no hno
      have e1 : rspan R at' from' l.length = 23 := by
        unfold rspan
        rw [e0, if_pos (by simp)]
      refine (rsb_none h at' hno from' a l.length cap).mono ?_
      rintro e w' ⟨rfl, hs⟩
      exact ⟨by rw [e1]; rfl, RChg.below un hs.below, .inl ⟨he, h.still hs⟩⟩
theorem fill_x {R : RefSt} (o : RefOk R) (j : Nat) (hj : j < R.L.length) (l : List Nat) : ∀ m, m ≤ (R.L.getD j (0, 0, 0)).2.2 → (R.fill j l m).X.length = R.X.length ∧ ((R.fill j l m).X.getD j []).length = fldsOf R.L j ∧ (∀ i, i ≠ j → (R.fill j l m).X.getD i [] = R.X.getD i []) ∧ ∀ k, ((R.fill j l m).X.getD j []).getD k 0 = if (R.L.getD j (0, 0, 0)).2.1 ≤ k ∧ k < (R.L.getD j (0, 0, 0)).2.1 + m then l.getD (k - (R.L.getD j (0, 0, 0)).2.1) 0 else (R.X.getD j []).getD k 0
  | 0, _ => ⟨rfl, o.xs j hj, fun _ _ => rfl, fun k => by rw [if_neg (by omega)]; rfl⟩
  | m + 1, hm => by
    obtain ⟨i1, i2, i3, i4⟩ := fill_x o j hj l m (by omega)
    have hlt : j < (R.fill j l m).X.length := by rw [i1, o.xl]; exact hj
    have hat := fun i => put_at (R.fill j l m) j ((R.L.getD j (0, 0, 0)).2.1 + m) (l.getD m 0) i hlt
    have e : R.fill j l (m + 1) = (R.fill j l m).put j ((R.L.getD j (0, 0, 0)).2.1 + m) (l.getD m 0) := rfl
    have hfl : fldsOf R.L j = (R.L.getD j (0, 0, 0)).2.1 + (R.L.getD j (0, 0, 0)).2.2 := rfl
    rw [e]
    refine ⟨by show ((R.fill j l m).X.set j _).length = _; rw [List.length_set]; exact i1, by rw [hat j, if_pos rfl, List.length_set]; exact i2, fun i hi => by rw [hat i, if_neg hi]; exact i3 i hi, fun k => ?_⟩
    rw [hat j, if_pos rfl, getD_set _ _ _ _ (by rw [i2]; omega), i4 k]
    by_cases e1 : k = (R.L.getD j (0, 0, 0)).2.1 + m
    · rw [if_pos e1, if_pos (by omega), e1]
      congr 1
      omega
    · rw [if_neg e1]
      by_cases e2 : (R.L.getD j (0, 0, 0)).2.1 ≤ k ∧ k < (R.L.getD j (0, 0, 0)).2.1 + m
      · rw [if_pos e2, if_pos (by omega)]
      · rw [if_neg e2, if_neg (by omega)]
theorem by_bytes (x y : Nat) (hx : x < 18446744073709551616) (hy : y < 18446744073709551616) (h : ∀ r, r < 8 → x / 2 ^ (8 * r) % 256 = y / 2 ^ (8 * r) % 256) : x = y := by
  have h0 := h 0 (by decide)
  have h1 := h 1 (by decide)
  have h2 := h 2 (by decide)
  have h3 := h 3 (by decide)
  have h4 := h 4 (by decide)
  have h5 := h 5 (by decide)
  have h6 := h 6 (by decide)
  have h7 := h 7 (by decide)
  simp only [Nat.mul_zero, Nat.pow_zero, Nat.div_one, Nat.mul_one, Nat.reduceMul, Nat.reducePow] at h0 h1 h2 h3 h4 h5 h6 h7
  omega
theorem wordAt_byte (L : List Nat) (h : Larder.SmallL L) (q r : Nat) (hr : r < 8) : Larder.wordAt L q / 2 ^ (8 * r) % 256 = L.getD (8 * q + r) 0 := by
  unfold Larder.wordAt
  rw [← Larder.pow256, Larder.leN_digit _ (fun c hc => Larder.small_mem h c (List.mem_of_mem_drop (List.mem_of_mem_take hc))), List.getD_eq_getElem?_getD, List.getElem?_take, if_pos hr, List.getElem?_drop, ← List.getD_eq_getElem?_getD]
theorem rawByte_at (R : RefSt) (j q : Nat) (hj : q < 8 * (R.L.getD j (0, 0, 0)).2.2) : (rbyN R j).getD q 0 = (rawsOf R j).getD (q / 8) 0 / 2 ^ (8 * (q % 8)) % 256 := by
  unfold rbyN
  rw [Larder.unpackL_get _ _ _ hj]
/-- SetBytes -/
theorem Rel.fill {ws ws' : List Nat} {hs : List Bool} {used : Nat} {R : RefSt} (h : Rel ws hs used R) (o : RefOk R) (j f : Nat) (l : List Nat) (hj : j < R.L.length) (hs1 : Small l) (hn : f + l.length ≤ 8 * (R.L.getD j (0, 0, 0)).2.2) (hsm : ∀ i, i < ws'.length → ws'.getD i 0 < 18446744073709551616)
    (hW : Written ws ws' (place R.L j + 1 + (R.L.getD j (0, 0, 0)).2.1) (R.L.getD j (0, 0, 0)).2.2 f l) : Rel ws' hs used (R.fill j (Larder.packL (patch (rbyN R j) f l)) (R.L.getD j (0, 0, 0)).2.2) := by
  obtain ⟨s1, s2, s3, s4, s5⟩ := fill_same R j (Larder.packL (patch (rbyN R j) f l)) (R.L.getD j (0, 0, 0)).2.2
  obtain ⟨i1, i2, i3, i4⟩ := fill_x o j hj (Larder.packL (patch (rbyN R j) f l)) _ (Nat.le_refl _)
  have hu := used_of R j hj
  have h2 := o.u2
  have h3 := h.sz
  have hus := h.us
  have hfl : fldsOf R.L j = (R.L.getD j (0, 0, 0)).2.1 + (R.L.getD j (0, 0, 0)).2.2 := rfl
  have hRL : (rbyN R j).length = 8 * (R.L.getD j (0, 0, 0)).2.2 := Larder.unpackL_length _ _
  have hps : Larder.SmallL (patch (rbyN R j) f l) := patch_below 256 _ _ _ (Larder.unpackL_small _ _) hs1
  refine ⟨by unfold RefSt.used; rw [s1]; exact hus, by rw [hW.len, s5]; exact h.sz, by rw [hW.len]; exact h.hl, ?_, fun i hi => ?_, fun i k hi hk => ?_, ?_⟩
  · rw [s1]; exact h.marks
  · rw [s1] at hi ⊢
    have e1 : rword (R.fill j (Larder.packL (patch (rbyN R j) f l)) (R.L.getD j (0, 0, 0)).2.2) i = rword R i := by unfold rword; rw [s1, s4]
    rw [e1, hW.out _ ?_]
    · exact h.heads i hi
    · rcases Nat.lt_trichotomy i j with q | q | q
      · have := place_lt R.L q; unfold wd at this; omega
      · subst q; omega
      · have := place_lt R.L q; unfold wd at this; omega
  · rw [s1] at hi hk ⊢
    by_cases e : i = j
    · subst e
      rw [i4 k]
      by_cases e2 : (R.L.getD i (0, 0, 0)).2.1 ≤ k ∧ k < (R.L.getD i (0, 0, 0)).2.1 + (R.L.getD i (0, 0, 0)).2.2
      · rw [if_pos e2]
        obtain ⟨q, hq⟩ : ∃ q, q = k - (R.L.getD i (0, 0, 0)).2.1 := ⟨_, rfl⟩
        have hq2 : q < (R.L.getD i (0, 0, 0)).2.2 := by omega
        rw [← hq, show place R.L i + 1 + k = place R.L i + 1 + (R.L.getD i (0, 0, 0)).2.1 + q by omega]
        have hwn : q < Larder.wn (patch (rbyN R i) f l).length := by rw [patch_length, hRL]; unfold Larder.wn; omega
        rw [Larder.packL_get _ _ hwn]
        refine by_bytes _ _ (hsm _ (by rw [hW.len]; omega)) (Larder.wordAt_lt (Larder.small_mem hps) q) (fun r hr => ?_)
        rw [wordAt_byte _ hps q r hr, patch_at _ _ _ _ (by rw [hRL]; omega)]
        have hb := hW.bytes (8 * q + r) (by omega)
        unfold rawByte at hb
        rw [show (8 * q + r) / 8 = q by omega, show (8 * q + r) % 8 = r by omega] at hb
        rw [hb]
        by_cases e3 : f ≤ 8 * q + r ∧ 8 * q + r < f + l.length
        · rw [if_pos e3, if_pos e3]
        · rw [if_neg e3, if_neg e3, rawByte_at R i _ (by omega), show (8 * q + r) / 8 = q by omega, show (8 * q + r) % 8 = r by omega]
          unfold rawsOf
          rw [getD_dropped, ← h.flds i _ hi (by omega), Nat.add_assoc]
      · rw [if_neg e2, hW.out _ (by omega)]
        exact h.flds i k hi hk
    · rw [i3 i e, hW.out _ ?_]
      · exact h.flds i k hi hk
      · have hfi : fldsOf R.L i = (R.L.getD i (0, 0, 0)).2.1 + (R.L.getD i (0, 0, 0)).2.2 := rfl
        rcases Nat.lt_trichotomy i j with q | q | q
        · have := place_lt R.L q; unfold wd at this; omega
        · exact absurd q e
        · have := place_lt R.L q; unfold wd at this; omega
  · rw [hW.out _ (by omega)]
    exact h.zero
end Go.Proofs.Ytdgdnpgjbphgaab
