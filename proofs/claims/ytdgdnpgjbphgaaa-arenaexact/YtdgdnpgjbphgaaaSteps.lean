/- Take as a step; what only asks. -/
import Derived.Test.YtdgdnpgjbphgaaaMove
namespace Go.Proofs.Ytdgdnpgjbphgaaa
open Go.ChangeShapes Go.WideShapes Go.ChangeAt Go.RowKit
set_option linter.unusedVariables false
set_option maxRecDepth 100000
set_option maxHeartbeats 2000000

/-- how many words the object with that head has -/
def sizeOf' (x : Nat) : Nat := 1 + x / 256 % 16777216 + x / 4294967296 % 16777216
/-- objects lie within the words in use, and no other begins inside one that was not taken -/
def Sound (ws : List Nat) (hs : List Bool) (used : Nat) : Prop := ∀ k, k < used → hs.getD k false = true → ws.getD k 0 < 9223372036854775808 →
  IsHead (ws.getD k 0) ∧ k + sizeOf' (ws.getD k 0) ≤ used ∧ ∀ j, k < j → j < k + sizeOf' (ws.getD k 0) → hs.getD j false = false
theorem Sound.heads {ws : List Nat} {hs : List Bool} {used : Nat} (h : Sound ws hs used) : Heads ws hs used := fun k h1 h2 h3 => by
  obtain ⟨a, b, _⟩ := h k h1 h2 h3
  unfold sizeOf' at b
  exact ⟨a, by omega⟩
theorem Sound.same {ws ws' : List Nat} {hs : List Bool} {used : Nat} (h : Sound ws hs used) (he : ∀ k, k < used → hs.getD k false = true → ws'.getD k 0 < 9223372036854775808 → ws'.getD k 0 = ws.getD k 0) : Sound ws' hs used := fun k h1 h2 h3 => by
  have e := he k h1 h2 h3
  rw [e] at h3 ⊢
  exact h k h1 h2 h3
/-- one more object behind the others -/
theorem Sound.more {ws ws' : List Nat} {hs : List Bool} {used n : Nat} (h : Sound ws hs used) (hl : used + n ≤ hs.length) (hn : 1 ≤ n) (he : ∀ k, k < used → ws'.getD k 0 = ws.getD k 0) (hx : IsHead (ws'.getD used 0)) (hs' : sizeOf' (ws'.getD used 0) = n) : Sound ws' (mark hs used n) (used + n) := by
  intro k h1 h2 h3
  by_cases hk : k = used
  · subst hk
    refine ⟨hx, by omega, fun j hj1 hj2 => ?_⟩
    rw [hs'] at hj2
    rw [mark_at _ _ _ _ (by omega), if_neg (by omega), if_pos (by omega)]
  · rw [mark_at _ _ _ _ (by omega), if_neg hk] at h2
    by_cases hin : used ≤ k ∧ k < used + n
    · rw [if_pos hin] at h2; cases h2
    · rw [if_neg hin] at h2
      have hku : k < used := by omega
      rw [he k hku] at h3 ⊢
      obtain ⟨a, b, c⟩ := h k hku h2 h3
      refine ⟨a, by omega, fun j hj1 hj2 => ?_⟩
      rw [mark_at _ _ _ _ (by omega), if_neg (by omega), if_neg (by omega)]
      exact c j hj1 hj2
theorem Sound.start (n : Nat) (h : 1 ≤ n) : Sound (List.replicate n 0) (List.replicate n false) 1 := fun k h1 h2 _ => by
  rw [rep_at n k false false (by omega)] at h2; cases h2
/-- an object's own numbers -/
theorem Sound.obj {ws : List Nat} {hs : List Bool} {used : Nat} (h : Sound ws hs used) {k : Nat} (he : (objRes ws hs used k).2.2.2 = 0) :
    1 ≤ k ∧ k < used ∧ hs.getD k false = true ∧ ws.getD k 0 < 9223372036854775808 ∧ IsHead (ws.getD k 0) ∧ sizeOf' (ws.getD k 0) = 1 + (objRes ws hs used k).2.1 + (objRes ws hs used k).2.2.1 ∧ k + sizeOf' (ws.getD k 0) ≤ used ∧ ∀ j, k < j → j < k + sizeOf' (ws.getD k 0) → hs.getD j false = false := by
  unfold objRes at he ⊢
  by_cases hb : 1 ≤ (k : Int) ∧ (k : Int) < used ∧ hs.getD (k : Int).toNat false = true
  · rw [if_pos hb] at he ⊢
    by_cases hm : 9223372036854775808 ≤ ws.getD (k : Int).toNat 0
    · rw [if_pos hm] at he; cases he
    · rw [if_neg hm]
      rw [Int.toNat_natCast] at *
      obtain ⟨a, b, c⟩ := h k (by omega) hb.2.2 (by omega)
      exact ⟨by omega, by omega, hb.2.2, by omega, a, rfl, b, c⟩
  · rw [if_neg hb] at he; cases he

/-- a step of one block: it is sound again; where it is refused all is as it was -/
structure Step (w w' : World) (p bw bh : Nat) (ws : List Nat) (hs : List Bool) (used : Nat) (f : Nat) (ws' : List Nat) (hs' : List Bool) (used' : Nat) : Prop where
  ar : Ar w' p bw bh ws' hs' used'
  sound : Sound ws' hs' used'
  but : But [p, bw, bh] w w'
  no : f ≠ 0 → ws' = ws ∧ hs' = hs ∧ used' = used
theorem step_no {w w' : World} {p bw bh : Nat} {ws : List Nat} {hs : List Bool} {used : Nat} (f : Nat) (h : Ar w p bw bh ws hs used) (hs0 : Sound ws hs used) (hb : Below w.heap.size w w') : Step w w' p bw bh ws hs used f ws hs used :=
  ⟨h.below hb, hs0, But.of_below hb, fun _ => ⟨rfl, rfl, rfl⟩⟩

theorem alloc_step {p bw bh : Nat} {ws : List Nat} {hs : List Bool} {used : Nat} (k r s : Int) (w : World) (h : Ar w p bw bh ws hs used) (hs0 : Sound ws hs used) :
    Calls Try.prog 34 #[.pointer (some ⟨p, 0, none⟩), .int .i64 k, .int .i64 r, .int .i64 s] w fun e w' => ∃ (u f : Nat) (ws' : List Nat) (hs' : List Bool) (used' : Nat), e = .returned (.tuple #[.int .i64 u, .int .i64 f]) ∧ Step w w' p bw bh ws hs used f ws' hs' used' := by
  by_cases hf : Fits k r s
  · obtain ⟨f1, f2, f3, f4, f5, f6⟩ := hf
    obtain ⟨k, rfl⟩ := Int.eq_ofNat_of_zero_le (show 0 ≤ k by omega)
    obtain ⟨r, rfl⟩ := Int.eq_ofNat_of_zero_le f3
    obtain ⟨s, rfl⟩ := Int.eq_ofNat_of_zero_le f5
    by_cases hn : used + (1 + r + s) ≤ ws.length
    · refine (alloc_yes k r s w h ⟨f1, f2, f3, f4, f5, f6⟩ hn).mono ?_
      rintro e w' ⟨rfl, hA, hB⟩
      refine ⟨used, 0, _, _, _, rfl, ⟨hA, hs0.more (by rw [h.hl]; omega) (by omega) (fun j hj => ?_) ?_ ?_, hB, fun h => absurd rfl h⟩⟩
      · rw [laid_at _ _ _ _ _ (by omega), if_neg (by omega), if_neg (by omega)]
      · rw [laid_at _ _ _ _ _ (by omega), if_pos rfl]
        unfold IsHead Fits
        refine ⟨⟨by omega, by omega, by omega, by omega, by omega, by omega⟩, by omega⟩
      · rw [laid_at _ _ _ _ _ (by omega), if_pos rfl]
        unfold sizeOf'
        omega
    · refine (alloc_full k r s w h ⟨f1, f2, f3, f4, f5, f6⟩ (by omega)).mono ?_
      rintro e w' ⟨rfl, hb⟩
      exact ⟨0, 22, _, _, _, rfl, step_no _ h hs0 hb⟩
  · refine (alloc_shape k r s w h hf).mono ?_
    rintro e w' ⟨rfl, hb⟩
    exact ⟨0, 21, _, _, _, rfl, step_no _ h hs0 hb⟩

theorem set_step {p bw bh : Nat} {ws : List Nat} {hs : List Bool} {used : Nat} (at' i : Int) (v : Nat) (hv : v < 18446744073709551616) (w : World) (h : Ar w p bw bh ws hs used) (hs0 : Sound ws hs used) :
    Calls Try.prog 12 #[.pointer (some ⟨p, 0, none⟩), .int .i64 at', .int .i64 i, .int .u64 v] w fun e w' => ∃ (f : Nat) (ws' : List Nat), e = .returned (.int .i64 f) ∧ Step w w' p bw bh ws hs used f ws' hs used := by
  by_cases hf : fieldErr ws hs used at' i = 0
  · have hf2 := hf
    unfold fieldErr at hf
    by_cases h0 : (objRes ws hs used at').2.2.2 ≠ 0
    · rw [if_pos h0] at hf; exact absurd hf h0
    · rw [if_neg h0] at hf
      have he : (objRes ws hs used at').2.2.2 = 0 := by omega
      obtain ⟨k, rfl, hk1⟩ := obj_nat he
      by_cases hi : 0 ≤ i ∧ i < ((objRes ws hs used k).2.1 + (objRes ws hs used k).2.2.1 : Nat)
      · obtain ⟨j, rfl⟩ := Int.eq_ofNat_of_zero_le hi.1
        obtain ⟨o1, o2, o3, o4, o5, o6, o7, o8⟩ := hs0.obj he
        refine (set_yes k j v w hv h hs0.heads he (by omega)).mono ?_
        rintro e w' ⟨rfl, hA, hB⟩
        refine ⟨0, _, rfl, ⟨hA, hs0.same (fun q h1 h2 _ => ?_), hB.over (by simp), fun h => absurd rfl h⟩⟩
        rw [getD_set _ _ _ _ (by have := h.u2; omega), if_neg]
        intro e
        rw [e, o8 (k + 1 + j) (by omega) (by omega)] at h2
        cases h2
      · rw [if_neg hi] at hf; cases hf
  · refine (set_no at' i v w h hs0.heads _ rfl hf).mono ?_
    rintro e w' ⟨rfl, hb⟩
    exact ⟨_, _, rfl, step_no _ h hs0 hb⟩

theorem setbytes_step {p bw bh : Nat} {ws : List Nat} {hs : List Bool} {used : Nat} (at' from' : Int) (l : List Nat) (a : Option Addr) (cap : Nat) (w : World) (hf1 : from' ≤ 9223372036854775807) (hf2 : -9223372036854775808 ≤ from') (h : Ar w p bw bh ws hs used) (hs0 : Sound ws hs used) (hB : Bytes w a l) (hsl : Small l) :
    Calls Try.prog 19 #[.pointer (some ⟨p, 0, none⟩), .int .i64 at', .int .i64 from', .slice a l.length cap] w fun e w' => ∃ (f : Nat) (ws' : List Nat), e = .returned (.int .i64 f) ∧ Step w w' p bw bh ws hs used f ws' hs used := by
  by_cases hf : spanErr ws hs used at' from' l.length = 0
  · have hf3 := hf
    unfold spanErr at hf
    by_cases h0 : (objRes ws hs used at').2.2.2 ≠ 0
    · rw [if_pos h0] at hf; exact absurd hf h0
    · rw [if_neg h0] at hf
      have he : (objRes ws hs used at').2.2.2 = 0 := by omega
      obtain ⟨k, rfl, hk1⟩ := obj_nat he
      by_cases hi : 0 ≤ from' ∧ 0 ≤ (l.length : Int) ∧ from' + l.length ≤ 8 * (((objRes ws hs used k).2.2.1 : Nat) : Int)
      · obtain ⟨j, rfl⟩ := Int.eq_ofNat_of_zero_le hi.1
        obtain ⟨o1, o2, o3, o4, o5, o6, o7, o8⟩ := hs0.obj he
        refine (setbytes_yes k j l a cap w h hs0.heads he (by omega) hB hsl).mono ?_
        rintro e w' ⟨ws', rfl, hA, hB, hW⟩
        refine ⟨0, _, rfl, ⟨hA, hs0.same (fun q h1 h2 _ => ?_), hB.over (by simp), fun h => absurd rfl h⟩⟩
        apply hW.out
        by_cases hq : q < k + 1 + (objRes ws hs used k).2.1 ∨ k + 1 + (objRes ws hs used k).2.1 + (objRes ws hs used k).2.2.1 ≤ q
        · exact hq
        · rw [o8 q (by omega) (by omega)] at h2
          cases h2
      · rw [if_neg hi] at hf; cases hf
  · refine (setbytes_no at' from' a l.length cap w hf1 hf2 h hs0.heads _ rfl hf).mono ?_
    rintro e w' ⟨rfl, hb⟩
    exact ⟨_, _, rfl, step_no _ h hs0 hb⟩
end Go.Proofs.Ytdgdnpgjbphgaaa
namespace Go.Proofs.Ytdgdnpgjbphgaaa
open Go.ChangeShapes Go.WideShapes Go.ChangeAt Go.RowKit
set_option linter.unusedVariables false
set_option maxRecDepth 100000
set_option maxHeartbeats 2000000

/-- an object that was taken: its place, and the word that tells so -/
def Gone (ws : List Nat) (hs : List Bool) (us : Nat) (at' : Int) (ws' : List Nat) : Prop := ∃ k v : Nat, at' = k ∧ 1 ≤ k ∧ k < us ∧ hs.getD k false = true ∧ 9223372036854775808 ≤ v ∧ v < 18446744073709551616 ∧ ws' = ws.set k v
theorem set_own (ws : List Nat) (k : Nat) (h : k < ws.length) : ws.set k (ws.getD k 0) = ws := by
  apply List.ext_getElem?
  intro j
  rw [List.getElem?_set]
  by_cases e : k = j
  · subst e
    rw [if_pos rfl, if_pos h, List.getD_eq_getElem?_getD, List.getElem?_eq_getElem h]; rfl
  · rw [if_neg e]
theorem take_cases (ws : List Nat) (hs : List Bool) (us : Nat) (at' : Int) :
    ((movedRes ws hs us at').2.2 = 23 ∧ (movedRes ws hs us at').2.1 = false) ∨
    (∃ k : Nat, at' = k ∧ 1 ≤ k ∧ k < us ∧ hs.getD k false = true ∧ 9223372036854775808 ≤ ws.getD k 0 ∧ movedRes ws hs us at' = (ws.getD k 0 - 9223372036854775808, true, 0)) ∨
    (∃ k kd r s : Nat, at' = k ∧ objRes ws hs us k = (kd, r, s, 0)) := by
  by_cases hb : 1 ≤ at' ∧ at' < us ∧ hs.getD at'.toNat false = true
  · obtain ⟨k, rfl⟩ := Int.eq_ofNat_of_zero_le (show (0 : Int) ≤ at' by omega)
    by_cases hm : 9223372036854775808 ≤ ws.getD k 0
    · refine .inr (.inl ⟨k, rfl, by omega, by omega, by simpa using hb.2.2, hm, ?_⟩)
      unfold movedRes
      rw [if_pos hb, Int.toNat_natCast, if_pos hm]
    · refine .inr (.inr ⟨k, ws.getD k 0 % 256, ws.getD k 0 / 256 % 16777216, ws.getD k 0 / 4294967296 % 16777216, rfl, ?_⟩)
      unfold objRes
      rw [if_pos hb, Int.toNat_natCast, if_neg hm]
  · left
    unfold movedRes
    rw [if_neg hb]
    exact ⟨rfl, rfl⟩
theorem head_of {ws wd : List Nat} {hs : List Bool} {us k kd r s : Nat} (h0 : Sound ws hs us) (ho : objRes ws hs us k = (kd, r, s, 0)) : 1 ≤ k ∧ k < us ∧ hs.getD k false = true ∧ IsHead (ws.getD k 0) ∧ sizeOf' (ws.getD k 0) = 1 + r + s ∧ k + (1 + r + s) ≤ us := by
  obtain ⟨o1, o2, o3, o4, o5, o6, o7, o8⟩ := h0.obj (k := k) (by rw [ho])
  rw [ho] at o6
  dsimp only at o6
  exact ⟨o1, o2, o3, o5, o6, by omega⟩

theorem take_step {p bw bh : Nat} {wd : List Nat} {hd : List Bool} {ud : Nat} {ps bs hb : Nat} {ws : List Nat} {hs : List Bool} {us : Nat} (at' : Int) (w : World) (hd0 : Ar w p bw bh wd hd ud) (hds : Sound wd hd ud) (h : Ar w ps bs hb ws hs us) (hss : Sound ws hs us) (h1 : ps ∉ [p, bh, bw]) (h2 : bs ∉ [p, bh, bw]) (h3 : hb ∉ [p, bh, bw]) :
    Calls Try.prog 46 #[.pointer (some ⟨p, 0, none⟩), .pointer (some ⟨ps, 0, none⟩), .int .i64 at'] w fun e w' => ∃ (u f : Nat) (wd' : List Nat) (hd' : List Bool) (ud' : Nat) (ws' : List Nat), e = .returned (.tuple #[.int .i64 u, .int .i64 f]) ∧ Ar w' p bw bh wd' hd' ud' ∧ Sound wd' hd' ud' ∧ Ar w' ps bs hb ws' hs us ∧ Sound ws' hs us ∧ But [p, bh, bw, bs] w w' ∧ (f ≠ 0 → wd' = wd ∧ hd' = hd ∧ ud' = ud ∧ ws' = ws) ∧ (f = 0 → Gone ws hs us at' ws') := by
  rcases take_cases ws hs us at' with ⟨hf, hm⟩ | ⟨k, rfl, k1, k2, k3, k4, hmr⟩ | ⟨k, kd, r, s, rfl, ho⟩
  · refine (take_not (.pointer (some ⟨p, 0, none⟩)) at' w h (.inr (by rw [hf]; decide))).mono ?_
    rintro e w' ⟨rfl, hw⟩
    subst hw
    rw [hf]
    exact ⟨_, 23, wd, hd, ud, ws, rfl, hd0, hds, h, hss, But.refl _ _, fun _ => ⟨rfl, rfl, rfl, rfl⟩, fun h => by cases h⟩
  · refine (take_not (.pointer (some ⟨p, 0, none⟩)) k w h (.inl (by rw [hmr]))).mono ?_
    rintro e w' ⟨rfl, hw⟩
    subst hw
    rw [hmr]
    have hu := h.u2
    exact ⟨_, 0, wd, hd, ud, ws, rfl, hd0, hds, h, hss, But.refl _ _, fun _ => ⟨rfl, rfl, rfl, rfl⟩, fun _ => ⟨k, ws.getD k 0, rfl, k1, k2, k3, k4, h.small k (by omega), (set_own ws k (by omega)).symm⟩⟩
  · obtain ⟨o1, o2, o3, o5, o6, o7⟩ := head_of (wd := wd) hss ho
    have hu := h.u2
    have hul := hd0.u2
    have hzl := hd0.sz
    by_cases hn : ud + (1 + r + s) ≤ wd.length
    · refine (take_yes k kd r s w hd0 h hss.heads h1 h2 h3 ho hn).mono ?_
      rintro e w' ⟨rfl, hA, hS, hB⟩
      have hg : (patch wd ud (runL ws k (1 + r + s))).getD ud 0 = ws.getD k 0 := by
        rw [patch_at _ _ _ _ (by omega), if_pos (by rw [runL_length]; omega), Nat.sub_self, runL_at _ _ _ _ (by omega), Nat.add_zero]
      refine ⟨_, 0, _, _, _, _, rfl, hA, hds.more (by rw [hd0.hl]; omega) (by omega) (fun j hj => ?_) (by rw [hg]; exact o5) (by rw [hg]; exact o6), hS, hss.same (fun q hq1 hq2 hq3 => ?_), hB, fun h => absurd rfl h, fun _ => ⟨k, _, rfl, o1, o2, o3, by omega, by omega, rfl⟩⟩
      · rw [patch_at _ _ _ _ (by omega), if_neg (by omega)]
      · rw [getD_set _ _ _ _ (by omega)] at hq3 ⊢
        by_cases e : q = k
        · rw [if_pos e] at hq3; omega
        · rw [if_neg e]
    · refine (take_full k kd r s w hd0 h hss.heads ho (by omega)).mono ?_
      rintro e w' ⟨rfl, hb⟩
      exact ⟨0, 22, _, _, _, _, rfl, hd0.below hb, hds, h.below hb, hss, But.of_below hb, fun _ => ⟨rfl, rfl, rfl, rfl⟩, fun h => by cases h⟩

theorem take_self_step {ps bs hb : Nat} {ws : List Nat} {hs : List Bool} {us : Nat} (at' : Int) (w : World) (h : Ar w ps bs hb ws hs us) (hss : Sound ws hs us) :
    Calls Try.prog 46 #[.pointer (some ⟨ps, 0, none⟩), .pointer (some ⟨ps, 0, none⟩), .int .i64 at'] w fun e w' => ∃ (u f : Nat) (ws' : List Nat) (hs' : List Bool) (us' : Nat), e = .returned (.tuple #[.int .i64 u, .int .i64 f]) ∧ Step w w' ps bs hb ws hs us f ws' hs' us' := by
  rcases take_cases ws hs us at' with ⟨hf, hm⟩ | ⟨k, rfl, k1, k2, k3, k4, hmr⟩ | ⟨k, kd, r, s, rfl, ho⟩
  · refine (take_not (.pointer (some ⟨ps, 0, none⟩)) at' w h (.inr (by rw [hf]; decide))).mono ?_
    rintro e w' ⟨rfl, hw⟩
    subst hw
    rw [hf]
    exact ⟨_, 23, _, _, _, rfl, step_no _ h hss (Below.refl _ _)⟩
  · refine (take_not (.pointer (some ⟨ps, 0, none⟩)) k w h (.inl (by rw [hmr]))).mono ?_
    rintro e w' ⟨rfl, hw⟩
    subst hw
    rw [hmr]
    exact ⟨_, 0, _, _, _, rfl, step_no _ h hss (Below.refl _ _)⟩
  · obtain ⟨o1, o2, o3, o5, o6, o7⟩ := head_of (wd := ws) hss ho
    have hu := h.u2
    have hz := h.sz
    by_cases hn : us + (1 + r + s) ≤ ws.length
    · refine (take_self k kd r s w h hss.heads ho hn).mono ?_
      rintro e w' ⟨rfl, hA, hB⟩
      have hg : (patch ws us (runL ws k (1 + r + s))).getD us 0 = ws.getD k 0 := by
        rw [patch_at _ _ _ _ (by omega), if_pos (by rw [runL_length]; omega), Nat.sub_self, runL_at _ _ _ _ (by omega), Nat.add_zero]
      have hmo : Sound (patch ws us (runL ws k (1 + r + s))) (mark hs us (1 + r + s)) (us + (1 + r + s)) := hss.more (by rw [h.hl]; omega) (by omega) (fun j hj => by rw [patch_at _ _ _ _ (by omega), if_neg (by omega)]) (by rw [hg]; exact o5) (by rw [hg]; exact o6)
      refine ⟨_, 0, _, _, _, rfl, ⟨hA, hmo.same (fun q hq1 hq2 hq3 => ?_), hB.over (by simp), fun h => absurd rfl h⟩⟩
      rw [getD_set _ _ _ _ (by rw [patch_length]; omega)] at hq3 ⊢
      by_cases e : q = k
      · rw [if_pos e] at hq3; omega
      · rw [if_neg e]
    · refine (take_full_self k kd r s w h hss.heads ho (by omega)).mono ?_
      rintro e w' ⟨rfl, hb⟩
      exact ⟨0, 22, _, _, _, rfl, step_no _ h hss hb⟩

/-- what only asks, answers something and leaves all as it was -/
theorem get_ask {p bw bh : Nat} {ws : List Nat} {hs : List Bool} {used : Nat} (at' i : Int) (w : World) (h : Ar w p bw bh ws hs used) (hs0 : Sound ws hs used) :
    Calls Try.prog 15 #[.pointer (some ⟨p, 0, none⟩), .int .i64 at', .int .i64 i] w fun e w' => (∃ v, e = .returned v) ∧ Below w.heap.size w w' := by
  by_cases hf : fieldErr ws hs used at' i = 0
  · have hf2 := hf
    unfold fieldErr at hf
    by_cases h0 : (objRes ws hs used at').2.2.2 ≠ 0
    · rw [if_pos h0] at hf; exact absurd hf h0
    · rw [if_neg h0] at hf
      have he : (objRes ws hs used at').2.2.2 = 0 := by omega
      obtain ⟨k, rfl, hk1⟩ := obj_nat he
      by_cases hi : 0 ≤ i ∧ i < ((objRes ws hs used k).2.1 + (objRes ws hs used k).2.2.1 : Nat)
      · obtain ⟨j, rfl⟩ := Int.eq_ofNat_of_zero_le hi.1
        refine (get_yes k j w h hs0.heads he (by omega)).mono ?_
        rintro e w' ⟨rfl, hb⟩
        exact ⟨⟨_, rfl⟩, hb⟩
      · rw [if_neg hi] at hf; cases hf
  · refine (get_no at' i w h hs0.heads _ rfl hf).mono ?_
    rintro e w' ⟨rfl, hb⟩
    exact ⟨⟨_, rfl⟩, hb⟩
theorem bytes_ask {p bw bh : Nat} {ws : List Nat} {hs : List Bool} {used : Nat} (at' from' n : Int) (w : World) (hf1 : from' ≤ 9223372036854775807) (hf2 : -9223372036854775808 ≤ from') (h : Ar w p bw bh ws hs used) (hs0 : Sound ws hs used) :
    Calls Try.prog 44 #[.pointer (some ⟨p, 0, none⟩), .int .i64 at', .int .i64 from', .int .i64 n] w fun e w' => (∃ v, e = .returned v) ∧ Below w.heap.size w w' := by
  by_cases hf : spanErr ws hs used at' from' n = 0
  · have hf3 := hf
    unfold spanErr at hf
    by_cases h0 : (objRes ws hs used at').2.2.2 ≠ 0
    · rw [if_pos h0] at hf; exact absurd hf h0
    · rw [if_neg h0] at hf
      have he : (objRes ws hs used at').2.2.2 = 0 := by omega
      obtain ⟨k, rfl, hk1⟩ := obj_nat he
      by_cases hi : 0 ≤ from' ∧ 0 ≤ n ∧ from' + n ≤ 8 * (((objRes ws hs used k).2.2.1 : Nat) : Int)
      · obtain ⟨j, rfl⟩ := Int.eq_ofNat_of_zero_le hi.1
        obtain ⟨m, rfl⟩ := Int.eq_ofNat_of_zero_le hi.2.1
        refine (bytes_yes k j m w h hs0.heads he (by omega)).mono ?_
        rintro e w' ⟨a, cap, rfl, _, _, _, hb⟩
        exact ⟨⟨_, rfl⟩, hb⟩
      · rw [if_neg hi] at hf; cases hf
  · refine (bytes_no at' from' n w hf1 hf2 h hs0.heads _ rfl hf).mono ?_
    rintro e w' ⟨rfl, hb⟩
    exact ⟨⟨_, rfl⟩, hb⟩
theorem three_any (n : Int) (w : World) : Calls Try.prog 24 #[.int .i64 n] w fun e w' => e = .returned (.int .i64 (n % 3)) ∧ w' = w := by
  have HN : Hid ((wrap64 (n.tmod 3 + 3)).tmod 3 = n % 3) := hide (by
    have h := within_num n 3 (by decide) (by decide)
    have e : ((n % ((3 : Nat) : Int)).toNat : Int) = n % 3 := by
      have := Int.emod_nonneg n (show (3 : Int) ≠ 0 by omega)
      rw [show ((3 : Nat) : Int) = 3 from rfl]
      omega
    rw [e] at h
    exact h)
  go_enter Try.func24, Try.ntmps24
  go_wp2
  go_ret
  exact ⟨ret_int (unhide HN), rfl⟩
end Go.Proofs.Ytdgdnpgjbphgaaa
