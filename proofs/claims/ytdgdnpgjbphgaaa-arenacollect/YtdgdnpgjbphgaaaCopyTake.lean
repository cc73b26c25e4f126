/- Take in the copying loop. -/
import Derived.Test.YtdgdnpgjbphgaaaCopyNext
namespace Go.Proofs.Ytdgdnpgjbphgaaa
open Go.ChangeShapes Go.WideShapes Go.ChangeAt Go.RowKit
set_option linter.unusedVariables false
set_option maxRecDepth 100000
set_option maxHeartbeats 2000000

theorem From.obj {L : List (Nat × Nat × Nat)} {E : List (List Int)} {Q : List Nat} {ws : List Nat} {hs : List Bool} (h : From L E Q ws hs) (hg : Good L) (t : Nat) (ht : t < L.length) (hn : t ∉ Q) :
    objRes ws hs (place L L.length) (place L t : Nat) = ((L.getD t (0, 0, 0)).1, (L.getD t (0, 0, 0)).2.1, (L.getD t (0, 0, 0)).2.2, 0) := by
  have h1 := place_pos L t
  have h2 := place_lt L ht
  have h3 : 1 ≤ wd (L.getD t (0, 0, 0)) := by unfold wd; omega
  obtain ⟨q1, q2, q3, q4⟩ := head_at hg t ht
  unfold objRes
  rw [if_pos ⟨by omega, by omega, by rw [Int.toNat_natCast]; exact (h.marks _ (by omega)).2 ⟨t, ht, rfl⟩⟩, Int.toNat_natCast, h.heads t ht hn, if_neg (by omega), q1, q2, q3]
theorem From.all {L : List (Nat × Nat × Nat)} {E : List (List Int)} {Q : List Nat} {ws : List Nat} {hs : List Bool} (h : From L E Q ws hs) (hg : Good L) : Heads ws hs (place L L.length) := by
  intro k hk hm hlt
  obtain ⟨j, hj, rfl⟩ := (h.marks k hk).1 hm
  by_cases hq : j ∈ Q
  · rw [h.gone j hj hq] at hlt; omega
  · obtain ⟨q1, q2, q3, q4⟩ := head_at hg j hj
    obtain ⟨g1, g2, g3, g4⟩ := hg j hj
    have h2 := place_lt L hj
    unfold wd at h2
    rw [h.heads j hj hq]
    unfold IsHead Fits
    rw [q1, q2, q3]
    exact ⟨⟨⟨by omega, by omega, by omega, by omega, by omega, by omega⟩, q4⟩, by omega⟩
theorem From.moved {L : List (Nat × Nat × Nat)} {E : List (List Int)} {Q : List Nat} {ws : List Nat} {hs : List Bool} (h : From L E Q ws hs) (t : Nat) (ht : t < L.length) (hq : t ∈ Q) :
    movedRes ws hs (place L L.length) (place L t : Nat) = (spot L Q (Q.idxOf t), true, 0) := by
  have h1 := place_pos L t
  have h2 := place_lt L ht
  have h3 : 1 ≤ wd (L.getD t (0, 0, 0)) := by unfold wd; omega
  unfold movedRes
  rw [if_pos ⟨by omega, by omega, by rw [Int.toNat_natCast]; exact (h.marks _ (by omega)).2 ⟨t, ht, rfl⟩⟩, Int.toNat_natCast, h.gone t ht hq, if_pos (by omega), Nat.add_sub_cancel_left]

/-- both blocks, in the midst of the copying -/
structure Cop (w0 w : World) (p bw bh p' bw' bh' : Nat) (L : List (Nat × Nat × Nat)) (E : List (List Int)) (R : List Nat) (N : Nat) (hsa : List Bool) (Q : List Nat) (sc c : Nat) (wsa wsb : List Nat) (hsb : List Bool) : Prop where
  a : Ar w p bw bh wsa hsa (place L L.length)
  alen : wsa.length = place L L.length
  fr : From L E Q wsa hsa
  b : Ar w p' bw' bh' wsb hsb (spot L Q Q.length)
  blen : wsb.length = N
  into : Into L E Q sc c wsb hsb
  shut : Shut L E Q sc c
  mem : ∀ i, i ∈ Q → i < L.length ∧ Live L E R i
  nd : Q.Nodup
  sc1 : sc < Q.length ∨ c = 0
  sc2 : sc ≤ Q.length
  but : But [bw, p', bw', bh'] w0 w
theorem cop_take {w0 w : World} {p bw bh p' bw' bh' : Nat} {L : List (Nat × Nat × Nat)} {E : List (List Int)} {R : List Nat} {N : Nat} {hsa : List Bool} {Q : List Nat} {sc c : Nat} {wsa wsb : List Nat} {hsb : List Bool} (h : Cop w0 w p bw bh p' bw' bh' L E R N hsa Q sc c wsa wsb hsb) (hg : Good L) (h1 : p ∉ [p', bh', bw']) (h2 : bw ∉ [p', bh', bw']) (h3 : bh ∉ [p', bh', bw']) (t : Nat) (ht : t < L.length) (hv : Live L E R t) :
    Calls Try.prog 46 #[.pointer (some ⟨p', 0, none⟩), .pointer (some ⟨p, 0, none⟩), .int .i64 (place L t : Nat)] w fun e w' =>
      (∃ Q' wsa' wsb' hsb', e = .returned (.tuple #[.int .i64 (spot L Q' (Q'.idxOf t) : Nat), .int .i64 0]) ∧ Cop w0 w' p bw bh p' bw' bh' L E R N hsa Q' sc c wsa' wsb' hsb' ∧ t ∈ Q' ∧ (Q' = Q ∨ Q' = Q ++ [t])) ∨
      (t ∉ Q ∧ N < spot L Q Q.length + wd (L.getD t (0, 0, 0)) ∧ e = .returned (.tuple #[.int .i64 0, .int .i64 22]) ∧ Below w.heap.size w w') := by
  have hw : wd (L.getD t (0, 0, 0)) = 1 + (L.getD t (0, 0, 0)).2.1 + (L.getD t (0, 0, 0)).2.2 := rfl
  by_cases hq : t ∈ Q
  · have hm := h.fr.moved t ht hq
    refine (take_not (.pointer (some ⟨p', 0, none⟩)) (place L t : Nat) w h.a (.inl (by rw [hm]))).mono ?_
    rintro e w' ⟨rfl, hww⟩
    subst hww
    rw [hm]
    exact .inl ⟨Q, wsa, wsb, hsb, rfl, h, hq, .inl rfl⟩
  · have ho := h.fr.obj hg t ht hq
    by_cases hf : spot L Q Q.length + wd (L.getD t (0, 0, 0)) ≤ N
    · have hbl := h.blen
      refine (take_yes (place L t) _ _ _ w h.b h.a (h.fr.all hg) h1 h2 h3 ho (by omega)).mono ?_
      rintro e w' ⟨rfl, hB, hA, hbut⟩
      have hfl : 1 + (L.getD t (0, 0, 0)).2.1 + (L.getD t (0, 0, 0)).2.2 = 1 + fldsOf L t := by unfold fldsOf; omega
      rw [hfl] at hB
      have hsp : spot L (Q ++ [t]) (Q ++ [t]).length = spot L Q Q.length + (1 + fldsOf L t) := by
        rw [show (Q ++ [t]).length = Q.length + 1 by simp, spot_next, hw, hfl]
      have hal := h.alen
      refine .inl ⟨Q ++ [t], _, _, _, ?_, ⟨hA, by rw [List.length_set]; exact h.alen, h.fr.next (by omega) ht hq, by rw [hsp]; exact hB, by rw [patch_length]; exact h.blen, h.into.next h.fr h.shut h.sc1 h.sc2 ht hq (by omega) h.b.hl (by omega), ?_, ?_, ?_, ?_, ?_, h.but.trans (hbut.over (by simp))⟩, by simp, .inr rfl⟩
      · rw [idxOf_last Q t hq, spot_prefix L Q t _ (Nat.le_refl _)]
      · intro m f u hm hr hd he
        by_cases e : m = Q.length
        · exfalso
          rcases hd with hd | hd
          · have := h.sc2; omega
          · rcases h.sc1 with hs | hs <;> omega
        · have hm2 : m < Q.length := by simp at hm; omega
          rw [getD_append_left' Q t m hm2] at hr he
          exact List.mem_append_left _ (h.shut m f u hm2 hr hd he)
      · intro i hi
        rcases List.mem_append.1 hi with hi | hi
        · exact h.mem i hi
        · rw [List.mem_singleton] at hi; subst hi; exact ⟨ht, hv⟩
      · rw [List.nodup_append]
        refine ⟨h.nd, by simp, fun x hx y hy e => ?_⟩
        rw [List.mem_singleton] at hy
        subst hy
        subst e
        exact hq hx
      · rcases h.sc1 with hs | hs
        · left; simp; omega
        · exact .inr hs
      · have := h.sc2; simp; omega
    · have hbl := h.blen
      refine (take_full (place L t) _ _ _ w h.b h.a (h.fr.all hg) ho (by omega)).mono ?_
      rintro e w' ⟨rfl, hb⟩
      exact .inr ⟨hq, by omega, rfl, hb⟩
end Go.Proofs.Ytdgdnpgjbphgaaa
