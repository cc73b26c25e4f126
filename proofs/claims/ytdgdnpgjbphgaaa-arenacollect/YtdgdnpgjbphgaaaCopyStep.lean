/- One ref of the copying loop. -/
import Derived.Test.YtdgdnpgjbphgaaaCopyTake
namespace Go.Proofs.Ytdgdnpgjbphgaaa
open Go.ChangeShapes Go.WideShapes Go.ChangeAt Go.RowKit
set_option linter.unusedVariables false
set_option maxRecDepth 100000
set_option maxHeartbeats 2000000

theorem getD_mem (Q : List Nat) (m : Nat) (h : m < Q.length) : Q.getD m 0 ∈ Q := by
  rw [List.getD_eq_getElem?_getD, List.getElem?_eq_getElem h]
  exact List.getElem_mem h
theorem Into.obj {L : List (Nat × Nat × Nat)} {E : List (List Int)} {Q : List Nat} {sc c : Nat} {ws : List Nat} {hs : List Bool} (h : Into L E Q sc c ws hs) (hg : Good L) (hq : ∀ i, i ∈ Q → i < L.length) (m : Nat) (hm : m < Q.length) :
    objRes ws hs (spot L Q Q.length) (spot L Q m : Nat) = ((L.getD (Q.getD m 0) (0, 0, 0)).1, (L.getD (Q.getD m 0) (0, 0, 0)).2.1, (L.getD (Q.getD m 0) (0, 0, 0)).2.2, 0) := by
  have h1 : 1 ≤ spot L Q m := place_pos _ m
  have h2 := spot_le L Q hm hm
  obtain ⟨q1, q2, q3, q4⟩ := head_at hg (Q.getD m 0) (hq _ (getD_mem Q m hm))
  unfold objRes
  rw [if_pos ⟨by omega, by omega, by rw [Int.toNat_natCast]; exact (h.marks _ (by omega)).2 ⟨m, hm, rfl⟩⟩, Int.toNat_natCast, h.heads m hm, if_neg (by omega), q1, q2, q3]
theorem Into.all {L : List (Nat × Nat × Nat)} {E : List (List Int)} {Q : List Nat} {sc c : Nat} {ws : List Nat} {hs : List Bool} (h : Into L E Q sc c ws hs) (hg : Good L) (hq : ∀ i, i ∈ Q → i < L.length) : Heads ws hs (spot L Q Q.length) := by
  intro k hk hm hlt
  obtain ⟨j, hj, rfl⟩ := (h.marks k hk).1 hm
  have hjl := hq _ (getD_mem Q j hj)
  obtain ⟨q1, q2, q3, q4⟩ := head_at hg (Q.getD j 0) hjl
  obtain ⟨g1, g2, g3, g4⟩ := hg (Q.getD j 0) hjl
  have h2 := spot_le L Q hj hj
  unfold fldsOf at h2
  rw [h.heads j hj]
  unfold IsHead Fits
  rw [q1, q2, q3]
  exact ⟨⟨⟨by omega, by omega, by omega, by omega, by omega, by omega⟩, q4⟩, by omega⟩
theorem spot_apart (L : List (Nat × Nat × Nat)) (Q : List Nat) (o f j g : Nat) (ho : o < Q.length) (hj : j < Q.length) (hf : f < fldsOf L (Q.getD o 0)) (hg : g < fldsOf L (Q.getD j 0)) (e : spot L Q o + 1 + f = spot L Q j + 1 + g) : o = j ∧ f = g := by
  refine place_apart (shapesOf L Q) o f j g ?_ ?_ e
  · rw [shapesOf_at L Q o ho]; exact hf
  · rw [shapesOf_at L Q j hj]; exact hg
theorem spot_off (L : List (Nat × Nat × Nat)) (Q : List Nat) (m j g : Nat) (hm : m < Q.length) (hj : j < Q.length) (hg : g < fldsOf L (Q.getD j 0)) : spot L Q m ≠ spot L Q j + 1 + g := fun e => by
  by_cases e1 : m = j
  · subst e1; omega
  · rcases Nat.lt_or_gt_of_ne e1 with h | h
    · have := spot_le L Q h hm; omega
    · have := spot_le L Q h hj; omega
/-- a ref of the copy led to none: it is as it should be -/
theorem Into.skip {L : List (Nat × Nat × Nat)} {E : List (List Int)} {Q : List Nat} {sc c : Nat} {ws : List Nat} {hs : List Bool} (h : Into L E Q sc c ws hs) (he : edgeN E L.length (Q.getD sc 0) c = none) : Into L E Q sc (c + 1) ws hs := by
  refine ⟨h.marks, h.heads, fun m f hm hf => ?_⟩
  rw [h.fields m f hm hf]
  unfold copyField
  by_cases hr : f < refsOf L (Q.getD m 0)
  · rw [if_pos hr, if_pos hr]
    by_cases hd : m < sc ∨ (m = sc ∧ f < c)
    · rw [if_pos hd, if_pos (by omega)]
    · rw [if_neg hd]
      by_cases hd2 : m < sc ∨ (m = sc ∧ f < c + 1)
      · have e1 : m = sc := by omega
        have e2 : f = c := by omega
        subst e1
        subst e2
        rw [if_pos hd2, he]
        rfl
      · rw [if_neg hd2]
  · rw [if_neg hr, if_neg hr]
/-- a ref of the copy leads to the other copy now -/
theorem Into.set {L : List (Nat × Nat × Nat)} {E : List (List Int)} {Q : List Nat} {sc c : Nat} {ws : List Nat} {hs : List Bool} (h : Into L E Q sc c ws hs) (hsc : sc < Q.length) (hc : c < refsOf L (Q.getD sc 0)) (hl : spot L Q Q.length ≤ ws.length) : Into L E Q sc (c + 1) (ws.set (spot L Q sc + 1 + c) (refNew L Q (edgeN E L.length (Q.getD sc 0) c))) hs := by
  have hcf : c < fldsOf L (Q.getD sc 0) := by unfold fldsOf; unfold refsOf at hc; omega
  have hle := spot_le L Q hsc hsc
  refine ⟨h.marks, fun m hm => ?_, fun m f hm hf => ?_⟩
  · rw [getD_set _ _ _ _ (by omega), if_neg (spot_off L Q m sc c hm hsc hcf)]
    exact h.heads m hm
  · rw [getD_set _ _ _ _ (by omega)]
    by_cases e : spot L Q m + 1 + f = spot L Q sc + 1 + c
    · obtain ⟨e1, e2⟩ := spot_apart L Q m f sc c hm hsc hf hcf e
      subst e1
      subst e2
      rw [if_pos rfl]
      unfold copyField
      rw [if_pos hc, if_pos (.inr ⟨rfl, by omega⟩)]
    · rw [if_neg e, h.fields m f hm hf]
      unfold copyField
      by_cases hr : f < refsOf L (Q.getD m 0)
      · rw [if_pos hr, if_pos hr]
        by_cases hd : m < sc ∨ (m = sc ∧ f < c)
        · rw [if_pos hd, if_pos (by omega)]
        · rw [if_neg hd, if_neg]
          rintro (hh | ⟨e1, e2⟩)
          · exact hd (.inl hh)
          · subst e1
            exact e (by omega)
      · rw [if_neg hr, if_neg hr]
/-- the copy was gone through -/
theorem Into.turn {L : List (Nat × Nat × Nat)} {E : List (List Int)} {Q : List Nat} {sc c : Nat} {ws : List Nat} {hs : List Bool} (h : Into L E Q sc c ws hs) (hc : c = refsOf L (Q.getD sc 0)) : Into L E Q (sc + 1) 0 ws hs := by
  refine ⟨h.marks, h.heads, fun m f hm hf => ?_⟩
  rw [h.fields m f hm hf]
  unfold copyField
  by_cases hr : f < refsOf L (Q.getD m 0)
  · rw [if_pos hr, if_pos hr]
    by_cases hd : m < sc ∨ (m = sc ∧ f < c)
    · rw [if_pos hd, if_pos (by omega)]
    · rw [if_neg hd, if_neg]
      rintro (hh | ⟨_, e2⟩)
      · by_cases e1 : m = sc
        · subst e1; exact hd (.inr ⟨rfl, by omega⟩)
        · exact hd (.inl (by omega))
      · omega
  · rw [if_neg hr, if_neg hr]
theorem Cop.skip {w0 w w' : World} {p bw bh p' bw' bh' : Nat} {L : List (Nat × Nat × Nat)} {E : List (List Int)} {R : List Nat} {N : Nat} {hsa : List Bool} {Q : List Nat} {sc c : Nat} {wsa wsb : List Nat} {hsb : List Bool} (h : Cop w0 w p bw bh p' bw' bh' L E R N hsa Q sc c wsa wsb hsb) (hb : Below w.heap.size w w') (hsc : sc < Q.length) (he : edgeN E L.length (Q.getD sc 0) c = none) : Cop w0 w' p bw bh p' bw' bh' L E R N hsa Q sc (c + 1) wsa wsb hsb := by
  refine ⟨h.a.below hb, h.alen, h.fr, h.b.below hb, h.blen, h.into.skip he, ?_, h.mem, h.nd, .inl hsc, h.sc2, h.but.trans (But.of_below hb)⟩
  intro m f t hm hr hd hen
  by_cases e : m = sc ∧ f = c
  · obtain ⟨e1, e2⟩ := e
    subst e1
    subst e2
    rw [he] at hen
    cases hen
  · exact h.shut m f t hm hr (by omega) hen
theorem Cop.turn {w0 w : World} {p bw bh p' bw' bh' : Nat} {L : List (Nat × Nat × Nat)} {E : List (List Int)} {R : List Nat} {N : Nat} {hsa : List Bool} {Q : List Nat} {sc c : Nat} {wsa wsb : List Nat} {hsb : List Bool} (h : Cop w0 w p bw bh p' bw' bh' L E R N hsa Q sc c wsa wsb hsb) (hsc : sc < Q.length) (hc : c = refsOf L (Q.getD sc 0)) : Cop w0 w p bw bh p' bw' bh' L E R N hsa Q (sc + 1) 0 wsa wsb hsb := by
  refine ⟨h.a, h.alen, h.fr, h.b, h.blen, h.into.turn hc, ?_, h.mem, h.nd, .inr rfl, by omega, h.but⟩
  intro m f t hm hr hd hen
  refine h.shut m f t hm hr ?_ hen
  by_cases e1 : m = sc
  · subst e1; exact .inr ⟨rfl, by omega⟩
  · left; omega
theorem Cop.below {w0 w w' : World} {p bw bh p' bw' bh' : Nat} {L : List (Nat × Nat × Nat)} {E : List (List Int)} {R : List Nat} {N : Nat} {hsa : List Bool} {Q : List Nat} {sc c : Nat} {wsa wsb : List Nat} {hsb : List Bool} (h : Cop w0 w p bw bh p' bw' bh' L E R N hsa Q sc c wsa wsb hsb) (hb : Below w.heap.size w w') : Cop w0 w' p bw bh p' bw' bh' L E R N hsa Q sc c wsa wsb hsb :=
  ⟨h.a.below hb, h.alen, h.fr, h.b.below hb, h.blen, h.into, h.shut, h.mem, h.nd, h.sc1, h.sc2, h.but.trans (But.of_below hb)⟩
theorem Cop.object {w0 w : World} {p bw bh p' bw' bh' : Nat} {L : List (Nat × Nat × Nat)} {E : List (List Int)} {R : List Nat} {N : Nat} {hsa : List Bool} {Q : List Nat} {sc c : Nat} {wsa wsb : List Nat} {hsb : List Bool} (h : Cop w0 w p bw bh p' bw' bh' L E R N hsa Q sc c wsa wsb hsb) (hg : Good L) (m : Nat) (hm : m < Q.length) :
    Calls Try.prog 14 #[.pointer (some ⟨p', 0, none⟩), .int .i64 (spot L Q m : Nat)] w fun e w' => e = .returned (.tuple #[.int .i64 ((L.getD (Q.getD m 0) (0, 0, 0)).1 : Nat), .int .i64 ((L.getD (Q.getD m 0) (0, 0, 0)).2.1 : Nat), .int .i64 ((L.getD (Q.getD m 0) (0, 0, 0)).2.2 : Nat), .int .i64 0]) ∧ Below w.heap.size w w' := by
  refine (object_any (spot L Q m : Nat) w h.b (h.into.all hg (fun i hi => (h.mem i hi).1))).mono ?_
  rintro e w' ⟨rfl, hb⟩
  rw [h.into.obj hg (fun i hi => (h.mem i hi).1) m hm]
  exact ⟨rfl, hb⟩
theorem Cop.get {w0 w : World} {p bw bh p' bw' bh' : Nat} {L : List (Nat × Nat × Nat)} {E : List (List Int)} {R : List Nat} {N : Nat} {hsa : List Bool} {Q : List Nat} {sc c : Nat} {wsa wsb : List Nat} {hsb : List Bool} (h : Cop w0 w p bw bh p' bw' bh' L E R N hsa Q sc c wsa wsb hsb) (hg : Good L) (m f : Nat) (hm : m < Q.length) (hf : f < fldsOf L (Q.getD m 0)) :
    Calls Try.prog 15 #[.pointer (some ⟨p', 0, none⟩), .int .i64 (spot L Q m : Nat), .int .i64 f] w fun e w' => e = .returned (.tuple #[.int .u64 (copyField L E Q sc c m f : Nat), .int .i64 0]) ∧ Below w.heap.size w w' := by
  have ho := h.into.obj hg (fun i hi => (h.mem i hi).1) m hm
  refine (get_yes (spot L Q m) f w h.b (h.into.all hg (fun i hi => (h.mem i hi).1)) (by rw [ho]) (by rw [ho]; exact hf)).mono ?_
  rintro e w' ⟨rfl, hb⟩
  rw [h.into.fields m f hm hf]
  exact ⟨rfl, hb⟩
theorem Cop.set {w0 w : World} {p bw bh p' bw' bh' : Nat} {L : List (Nat × Nat × Nat)} {E : List (List Int)} {R : List Nat} {N : Nat} {hsa : List Bool} {Q : List Nat} {sc c : Nat} {wsa wsb : List Nat} {hsb : List Bool} (h : Cop w0 w p bw bh p' bw' bh' L E R N hsa Q sc c wsa wsb hsb) (hg : Good L) (hsc : sc < Q.length) (hc : c < refsOf L (Q.getD sc 0)) (t : Nat) (he : edgeN E L.length (Q.getD sc 0) c = some t) (ht : t ∈ Q) (h1 : p ≠ bw') (h2 : bw ≠ bw') (h3 : bh ≠ bw') :
    Calls Try.prog 12 #[.pointer (some ⟨p', 0, none⟩), .int .i64 (spot L Q sc : Nat), .int .i64 c, .int .u64 (spot L Q (Q.idxOf t) : Nat)] w fun e w' => e = .returned (.int .i64 0) ∧ ∃ wsb', Cop w0 w' p bw bh p' bw' bh' L E R N hsa Q sc (c + 1) wsa wsb' hsb := by
  have ho := h.into.obj hg (fun i hi => (h.mem i hi).1) sc hsc
  have hix := List.idxOf_lt_length_of_mem ht
  have hsp := spot_le L Q hix hix
  have hu2 := h.b.u2
  have hsz := h.b.sz
  have hcf : c < fldsOf L (Q.getD sc 0) := by unfold fldsOf; unfold refsOf at hc; omega
  refine (set_yes (spot L Q sc) c (spot L Q (Q.idxOf t)) w (by omega) h.b (h.into.all hg (fun i hi => (h.mem i hi).1)) (by rw [ho]) (by rw [ho]; exact hcf)).mono ?_
  rintro e w' ⟨rfl, hA, hB⟩
  refine ⟨rfl, _, ⟨h.a.but hB (by simpa using h1) (by simpa using h2) (by simpa using h3), h.alen, h.fr, hA, by rw [List.length_set]; exact h.blen, ?_, ?_, h.mem, h.nd, .inl hsc, h.sc2, h.but.trans (hB.over (by simp))⟩⟩
  · have := h.into.set hsc hc hu2
    rw [he] at this
    exact this
  · intro m f u hm hr hd hen
    by_cases e : m = sc ∧ f = c
    · obtain ⟨e1, e2⟩ := e
      subst e1
      subst e2
      rw [he] at hen
      cases hen
      exact ht
    · exact h.shut m f u hm hr (by omega) hen
/-- nothing is left to be taken: what was taken is what the roots lead to -/
theorem Cop.live {w0 w : World} {p bw bh p' bw' bh' : Nat} {L : List (Nat × Nat × Nat)} {E : List (List Int)} {R : List Nat} {N : Nat} {hsa : List Bool} {Q : List Nat} {wsa wsb : List Nat} {hsb : List Bool} (h : Cop w0 w p bw bh p' bw' bh' L E R N hsa Q Q.length 0 wsa wsb hsb) (hr : ∀ j ∈ R, j ∈ Q) (i : Nat) : i ∈ Q ↔ Live L E R i := by
  refine ⟨fun hi => (h.mem i hi).2, fun hl => hl (fun j => j ∈ Q) hr (fun j t hj hle => ?_)⟩
  obtain ⟨k, hk, he⟩ := hle
  have hix := List.idxOf_lt_length_of_mem hj
  have hgd : Q.getD (Q.idxOf j) 0 = j := by
    rw [List.getD_eq_getElem?_getD, List.getElem?_eq_getElem hix]
    exact List.getElem_idxOf hix
  exact h.shut (Q.idxOf j) k t hix (by rw [hgd]; exact hk) (.inl hix) (by rw [hgd]; exact he)
/-- how many words were taken -/
theorem Cop.sum {w0 w : World} {p bw bh p' bw' bh' : Nat} {L : List (Nat × Nat × Nat)} {E : List (List Int)} {R : List Nat} {N : Nat} {hsa : List Bool} {Q : List Nat} {wsa wsb : List Nat} {hsb : List Bool} (h : Cop w0 w p bw bh p' bw' bh' L E R N hsa Q Q.length 0 wsa wsb hsb) (hr : ∀ j ∈ R, j ∈ Q) (sn : List Bool) (hsn : ∀ j, sn.getD j false = true ↔ Live L E R j) : spot L Q Q.length = 1 + wsum L sn L.length := by
  rw [spot_sum L Q (fun i hi => (h.mem i hi).1) h.nd]
  congr 1
  refine wsum_same L _ _ L.length (fun j hj => ?_)
  rw [taken'_at _ _ _ hj]
  by_cases hm : j ∈ Q
  · rw [decide_eq_true hm, (hsn j).2 ((h.live hr j).1 hm)]
  · rw [decide_eq_false hm]
    cases hb : sn.getD j false with
    | false => rfl
    | true => exact absurd ((h.live hr j).2 ((hsn j).1 hb)) hm
/-- a Take was refused: there are more words than the second block has -/
theorem Cop.full {w0 w : World} {p bw bh p' bw' bh' : Nat} {L : List (Nat × Nat × Nat)} {E : List (List Int)} {R : List Nat} {N : Nat} {hsa : List Bool} {Q : List Nat} {sc c : Nat} {wsa wsb : List Nat} {hsb : List Bool} (h : Cop w0 w p bw bh p' bw' bh' L E R N hsa Q sc c wsa wsb hsb) (sn : List Bool) (hsn : ∀ j, sn.getD j false = true ↔ Live L E R j) (t : Nat) (ht : t < L.length) (hv : Live L E R t) (hq : t ∉ Q) (hf : N < spot L Q Q.length + wd (L.getD t (0, 0, 0))) : N < 1 + wsum L sn L.length := by
  rw [spot_sum L Q (fun i hi => (h.mem i hi).1) h.nd] at hf
  have h1 : ∀ j, (taken' L.length Q).getD j false = true → sn.getD j false = true := fun j hj => by
    by_cases hjl : j < L.length
    · rw [taken'_at _ _ _ hjl] at hj
      exact (hsn j).2 (h.mem j (of_decide_eq_true hj)).2
    · rw [List.getD_eq_getElem?_getD, List.getElem?_eq_none (by rw [taken'_length]; omega)] at hj
      cases hj
  have := wsum_fits L (taken' L.length Q) sn t L.length ht (by rw [taken'_length]; exact ht) h1 (by rw [taken'_at _ _ _ ht]; exact decide_eq_false hq) ((hsn t).2 hv)
  omega
end Go.Proofs.Ytdgdnpgjbphgaaa
