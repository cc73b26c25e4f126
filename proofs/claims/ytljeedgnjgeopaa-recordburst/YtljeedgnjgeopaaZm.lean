/- record, plainly: a log in which bits are turned. -/
import Derived.Test.YtljeedgnjgeopaaZl
namespace Larder
set_option linter.unusedVariables false
set_option linter.unusedSimpArgs false
/-- texts that differ in a run of at most 64 bits have unlike sums -/
theorem seg_sum {l m : List Nat} (hs : SmallL l) (hm : SmallL m) (hl : l.length = m.length) (A : Nat) (hw : ∀ i, i < 8 * l.length → bitAt l i ≠ bitAt m i → A ≤ i ∧ i < A + 64) (he : sumOf l = sumOf m) : l = m := by
  have hz : List.zipWith (· ^^ ·) (bitsOf l) (bitsOf m) = (List.range (8 * l.length)).map fun i => (bitAt l i ^^ bitAt m i) := by
    rw [bitsOf_range l, bitsOf_range m, ← hl, zipWith_map2]
  generalize hL : ((List.range (8 * l.length)).map fun i => (bitAt l i ^^ bitAt m i)) = L at hz
  have hLlen : L.length = 8 * l.length := by rw [← hL]; simp
  have hLget : ∀ i, i < L.length → L[i]? = some (bitAt l i ^^ bitAt m i) := by
    intro i hi
    rw [← hL, List.getElem?_map, List.getElem?_range (by omega)]; rfl
  have hout : ∀ i, i < 8 * l.length → ¬ (A ≤ i ∧ i < A + 64) → (bitAt l i ^^ bitAt m i) = false := fun i hi hn => by
    by_cases e : bitAt l i = bitAt m i
    · rw [e]; simp
    · exact absurd (hw i hi e) hn
  have h1 : L.take A = List.replicate (L.take A).length false := by
    apply List.ext_getElem?
    intro i
    by_cases hi : i < (L.take A).length
    · rw [List.getElem?_replicate, if_pos hi]
      have hi2 : i < A ∧ i < L.length := by simp at hi; omega
      rw [List.getElem?_take, if_pos hi2.1, hLget i hi2.2, hout i (by omega) (by omega)]
    · rw [List.getElem?_eq_none (by omega), List.getElem?_eq_none (by simp at *; omega)]
  have h3 : (L.drop A).drop 64 = List.replicate ((L.drop A).drop 64).length false := by
    apply List.ext_getElem?
    intro i
    by_cases hi : i < ((L.drop A).drop 64).length
    · rw [List.getElem?_replicate, if_pos hi]
      have hi2 : A + (64 + i) < L.length := by simp at hi; omega
      rw [List.getElem?_drop, List.getElem?_drop, hLget _ hi2, hout _ (by omega) (by omega)]
    · rw [List.getElem?_eq_none (by omega), List.getElem?_eq_none (by simp at *; omega)]
  have hsplit : L = List.replicate (L.take A).length false ++ (L.drop A).take 64 ++ List.replicate ((L.drop A).drop 64).length false := by
    rw [← h1, ← h3, List.append_assoc, List.take_append_drop, List.take_append_drop]
  have hd := burst (BitVec.allOnes 64) (bitsOf l) (bitsOf m) _ ((L.drop A).take 64) _ (by rw [bitsOf_length, bitsOf_length, hl]) (by simp; omega) (hz.trans hsplit) he
  apply ext_bits hs hm hl
  intro i hi
  by_cases hin : A ≤ i ∧ i < A + 64
  · have hmem : (bitAt l i ^^ bitAt m i) ∈ (L.drop A).take 64 := by
      apply List.mem_iff_getElem?.2
      refine ⟨i - A, ?_⟩
      rw [List.getElem?_take, if_pos (by omega), List.getElem?_drop, show A + (i - A) = i from by omega, hLget i (by omega)]
    have := hd _ hmem
    revert this
    cases bitAt l i <;> cases bitAt m i <;> simp
  · have := hout i hi hin
    revert this
    cases bitAt l i <;> cases bitAt m i <;> simp
theorem bitAt_drop (l : List Nat) (p i : Nat) : bitAt (l.drop p) i = bitAt l (8 * p + i) := by
  unfold bitAt
  rw [List.getD_eq_getElem?_getD, List.getElem?_drop, List.getD_eq_getElem?_getD, show (8 * p + i) / 8 = p + i / 8 by omega, show (8 * p + i) % 8 = i % 8 by omega]
theorem bitAt_take (l : List Nat) (q i : Nat) (h : i < 8 * q) : bitAt (l.take q) i = bitAt l i := by
  unfold bitAt
  rw [List.getD_eq_getElem?_getD, List.getElem?_take, if_pos (by omega), ← List.getD_eq_getElem?_getD]
theorem SmallL.drop {l : List Nat} (h : SmallL l) (p : Nat) : SmallL (l.drop p) := fun i hi => by
  rw [List.length_drop] at hi
  rw [List.getD_eq_getElem?_getD, List.getElem?_drop, ← List.getD_eq_getElem?_getD]
  exact h _ (by omega)
theorem SmallL.take {l : List Nat} (h : SmallL l) (q : Nat) : SmallL (l.take q) := fun i hi => by
  rw [List.length_take] at hi
  rw [List.getD_eq_getElem?_getD, List.getElem?_take, if_pos (by omega), ← List.getD_eq_getElem?_getD]
  exact h _ (by omega)
/-- a segment with its sum behind it is told -/
theorem seg_same {s t : List Nat} (hs : SmallL s) (ht : SmallL t) (hl : s.length = t.length) (A : Nat) (hw : ∀ i, i < 8 * s.length → bitAt s i ≠ bitAt t i → A ≤ i ∧ i < A + 64) (p q : Nat) (hq : p + q ≤ s.length) (h0 : sumOf ((s.drop p).take q) = 0#64) (h1 : sumOf ((t.drop p).take q) = 0#64) : (s.drop p).take q = (t.drop p).take q := by
  have e1 : ((s.drop p).take q).length = q := by rw [List.length_take, List.length_drop]; omega
  have e2 : ((t.drop p).take q).length = q := by rw [List.length_take, List.length_drop]; omega
  refine seg_sum ((hs.drop p).take q) ((ht.drop p).take q) (by rw [e1, e2]) (A - 8 * p) (fun i hi hne => ?_) (by rw [h0, h1])
  rw [e1] at hi
  rw [bitAt_take _ _ _ hi, bitAt_take _ _ _ hi, bitAt_drop, bitAt_drop] at hne
  have := hw (8 * p + i) (by omega) hne
  omega
theorem frame_head (b r : List Nat) : (frame b ++ r).take 17 = headB b ++ bigBytes (sumOf (headB b)) := by
  have e : frame b ++ r = (headB b ++ bigBytes (sumOf (headB b))) ++ (b ++ (bigBytes (sumOf b) ++ [85]) ++ r) := by unfold frame; simp only [List.append_assoc]
  have hl : (headB b ++ bigBytes (sumOf (headB b))).length = 17 := by simp only [List.length_append, headB_len, bigBytes_len]
  rw [e, List.take_append_of_le_length (by omega), List.take_of_length_le (by omega)]
theorem frame_body (b r : List Nat) : ((frame b ++ r).drop 17).take (b.length + 8) = b ++ bigBytes (sumOf b) := by
  have e : frame b ++ r = (headB b ++ bigBytes (sumOf (headB b))) ++ ((b ++ bigBytes (sumOf b)) ++ ([85] ++ r)) := by unfold frame; simp only [List.append_assoc]
  have hl : (headB b ++ bigBytes (sumOf (headB b))).length = 17 := by simp only [List.length_append, headB_len, bigBytes_len]
  have hl2 : (b ++ bigBytes (sumOf b)).length = b.length + 8 := by simp only [List.length_append, bigBytes_len]
  rw [e, List.drop_append, List.drop_of_length_le (by omega), List.nil_append, hl, Nat.sub_self, List.drop_zero, List.take_append_of_le_length (by omega), List.take_of_length_le (by omega)]
/-- a record in which a run of at most 64 bits is turned is none -/
theorem burst_not {e e' : EntP} {t rest : List Nat} (hs : SmallL (recE e ++ rest)) (ht : SmallL t) (hl : (recE e ++ rest).length = t.length) (hb : t.length < 256 ^ 8) (A : Nat) (hw : ∀ i, i < 8 * (recE e ++ rest).length → bitAt (recE e ++ rest) i ≠ bitAt t i → A ≤ i ∧ i < A + 64) (i0 : Nat) (hi0 : i0 < 8 * (recE e).length) (hne : bitAt (recE e ++ rest) i0 ≠ bitAt t i0) : ¬ recE e' <+: t := by
  rintro ⟨r, hr⟩
  have hR : (recE e).length = (body e).length + 26 := frame_len _
  have hR' : (recE e').length = (body e').length + 26 := frame_len _
  have hlen := hl
  rw [List.length_append] at hlen
  have hlen2 := congrArg List.length hr
  rw [List.length_append] at hlen2
  have H1 : (recE e ++ rest).take 17 = headB (body e) ++ bigBytes (sumOf (headB (body e))) := frame_head _ _
  have H2 : t.take 17 = headB (body e') ++ bigBytes (sumOf (headB (body e'))) := by rw [← hr]; exact frame_head _ _
  have hh := seg_same hs ht hl A hw 0 17 (by rw [List.length_append]; omega) (by rw [List.drop_zero, H1]; exact sum_behind _) (by rw [List.drop_zero, H2]; exact sum_behind _)
  rw [List.drop_zero, List.drop_zero, H1, H2] at hh
  have h9 : headB (body e) = headB (body e') := by
    have := congrArg (List.take 9) hh
    rwa [List.take_append_of_le_length (by rw [headB_len]; omega), List.take_append_of_le_length (by rw [headB_len]; omega), List.take_of_length_le (by rw [headB_len]; omega), List.take_of_length_le (by rw [headB_len]; omega)] at this
  have hm := headB_inj (by omega) (by omega) h9
  have B1 : ((recE e ++ rest).drop 17).take ((body e).length + 8) = body e ++ bigBytes (sumOf (body e)) := frame_body _ _
  have B2 : (t.drop 17).take ((body e).length + 8) = body e' ++ bigBytes (sumOf (body e')) := by rw [← hr, hm]; exact frame_body _ _
  have hbb := seg_same hs ht hl A hw 17 ((body e).length + 8) (by rw [List.length_append]; omega) (by rw [B1]; exact sum_behind _) (by rw [B2]; exact sum_behind _)
  rw [B1, B2] at hbb
  have hRR : recE e = recE e' := by
    have f1 : recE e = (headB (body e) ++ bigBytes (sumOf (headB (body e)))) ++ ((body e ++ bigBytes (sumOf (body e))) ++ [85]) := by unfold recE frame; simp only [List.append_assoc]
    have f2 : recE e' = (headB (body e') ++ bigBytes (sumOf (headB (body e')))) ++ ((body e' ++ bigBytes (sumOf (body e'))) ++ [85]) := by unfold recE frame; simp only [List.append_assoc]
    rw [f1, f2, hh, hbb]
  apply hne
  have t1 : bitAt (recE e ++ rest) i0 = bitAt (recE e) i0 := by
    rw [← bitAt_take _ (recE e).length i0 hi0, List.take_left]
  have t2 : bitAt t i0 = bitAt (recE e') i0 := by
    rw [← hr, ← bitAt_take _ (recE e').length i0 (by rw [← hRR]; exact hi0), List.take_left]
  rw [t1, t2, hRR]
theorem firstK_none {l : List Nat} {a x : Nat} : ∀ k, firstK (8 * l.length) a x k = none → turnK l a x k = l
  | 0, _ => rfl
  | k + 1, h => by
    unfold firstK at h
    cases hf : firstK (8 * l.length) a x k with
    | some v => rw [hf] at h; cases h
    | none =>
      rw [hf] at h
      dsimp only at h
      unfold turnK
      by_cases hc : x.testBit (63 - k) = true ∧ a + k < 8 * l.length
      · rw [if_pos hc] at h; cases h
      · rw [if_neg hc]
        exact firstK_none k hf
theorem firstK_not {n8 a x : Nat} : ∀ k, firstK n8 a x k = none → ∀ j, j < k → ¬ (x.testBit (63 - j) = true ∧ a + j < n8)
  | 0, _, j, hj => by omega
  | k + 1, h, j, hj => by
    unfold firstK at h
    cases hf : firstK n8 a x k with
    | some u => rw [hf] at h; cases h
    | none =>
      rw [hf] at h
      dsimp only at h
      by_cases hc : x.testBit (63 - k) = true ∧ a + k < n8
      · rw [if_pos hc] at h; cases h
      · by_cases e : j = k
        · rw [e]; exact hc
        · exact firstK_not k hf j (by omega)
theorem firstK_some {n8 a x v : Nat} : ∀ k, firstK n8 a x k = some v → ∃ k0, k0 < k ∧ x.testBit (63 - k0) = true ∧ a + k0 < n8 ∧ v = (a + k0) / 8 ∧ ∀ j, j < k0 → ¬ (x.testBit (63 - j) = true ∧ a + j < n8)
  | 0, h => by cases h
  | k + 1, h => by
    unfold firstK at h
    cases hf : firstK n8 a x k with
    | some u =>
      rw [hf] at h
      cases h
      obtain ⟨k0, h1, h2⟩ := firstK_some k hf
      exact ⟨k0, by omega, h2⟩
    | none =>
      rw [hf] at h
      dsimp only at h
      by_cases hc : x.testBit (63 - k) = true ∧ a + k < n8
      · rw [if_pos hc] at h
        cases h
        refine ⟨k, by omega, hc.1, hc.2, rfl, fun j hj => ?_⟩
        exact firstK_not k hf j hj
      · rw [if_neg hc] at h; cases h
/-- a log in which bits are turned -/
theorem burst_row {wr : Int → Int} {f s : Nat} {es : List EntP} (h : Numd f s es) (hw : ∀ e ∈ es, wr (e.seq : Int) = (e.seq : Int)) (hsm : SmallL (es.flatMap recE)) (a x v k : Nat) (hf : firstK (8 * (es.flatMap recE).length) a x 64 = some v) (hk : k ≤ es.length) (h1 : offR es k ≤ v) (h2 : k < es.length → v < offR es (k + 1)) :
    Row wr (turnK (es.flatMap recE) a x 64) (es.take k) := by
  obtain ⟨k0, g1, g2, g3, g4, g5⟩ := firstK_some 64 hf
  have hlog := h.log
  generalize hLL : es.flatMap recE = L at *
  have hlen := turnK_length L a x 64
  have hsc := turnK_small hsm a x 64
  have hbit := fun i hi => turnK_bit L a x 64 i hi
  have hlt : k < es.length := by
    rcases Nat.lt_or_ge k es.length with q | q
    · exact q
    · obtain rfl : k = es.length := by omega
      rw [offR_len, hLL] at h1
      omega
  have hek : es[k]? = some es[k] := List.getElem?_eq_getElem hlt
  have h3 := offR_succ hek
  have h4 := h2 hlt
  have hdr : L.drop (offR es k) = recE es[k] ++ (es.drop (k + 1)).flatMap recE := by
    have := drop_full es [] k
    rw [List.append_nil, List.append_nil, hLL] at this
    rw [this, List.drop_eq_getElem_cons hlt, List.flatMap_cons]
  have htk : L.take (offR es k) = (es.take k).flatMap recE := by
    have e1 : L = (es.take k).flatMap recE ++ (es.drop k).flatMap recE := by rw [← hLL, ← List.flatMap_append, List.take_append_drop]
    rw [e1]
    exact List.take_left
  have heq : ∀ i, i < a + k0 → i < 8 * L.length → bitAt (turnK L a x 64) i = bitAt L i := fun i hi hi2 => by
    rw [hbit i hi2]
    by_cases hr : a ≤ i
    · have h5 := g5 (i - a) (by omega)
      have : x.testBit (63 - (i - a)) = false := by
        cases hx : x.testBit (63 - (i - a)) with
        | false => rfl
        | true => exact absurd ⟨hx, by omega⟩ h5
      rw [this]; simp
    · have : ¬ (a ≤ i ∧ i < a + 64) := by omega
      rw [decide_eq_false this]; simp
  have hpre : (turnK L a x 64).take (offR es k) = L.take (offR es k) := by
    apply ext_bits (hsc.take _) (hsm.take _) (by rw [List.length_take, List.length_take, hlen])
    intro i hi
    rw [List.length_take] at hi
    rw [bitAt_take _ _ _ (by omega), bitAt_take _ _ _ (by omega), heq i (by omega) (by omega)]
  have hsplit : turnK L a x 64 = (es.take k).flatMap recE ++ (turnK L a x 64).drop (offR es k) := by
    rw [← htk, ← hpre, List.take_append_drop]
  rw [hsplit]
  refine row_pre (h.take k) (fun e he => hw e (List.mem_of_mem_take he)) ?_
  cases hx : fstR wr ((turnK L a x 64).drop (offR es k)) with
  | none => rfl
  | some e' =>
    exfalso
    have hd1 : (L.drop (offR es k)).length = ((turnK L a x 64).drop (offR es k)).length := by rw [List.length_drop, List.length_drop, hlen]
    refine burst_not (e := es[k]) (rest := (es.drop (k + 1)).flatMap recE) (t := (turnK L a x 64).drop (offR es k)) ?_ (hsc.drop _) ?_ ?_ (a - 8 * offR es k) ?_ (a + k0 - 8 * offR es k) (by omega) ?_ (of_fst hx).2
    · rw [← hdr]; exact hsm.drop _
    · rw [← hdr]; exact hd1
    · rw [List.length_drop, hlen]
      exact Nat.lt_of_le_of_lt (show _ ≤ 1343502640 by omega) (by decide)
    · intro i hi hne
      rw [← hdr, bitAt_drop, bitAt_drop] at hne
      rw [← hdr, List.length_drop] at hi
      rw [hbit _ (by omega)] at hne
      by_cases hin : a ≤ 8 * offR es k + i ∧ 8 * offR es k + i < a + 64
      · omega
      · rw [decide_eq_false hin] at hne
        simp at hne
    · rw [← hdr, bitAt_drop, bitAt_drop, hbit _ (by omega), show 8 * offR es k + (a + k0 - 8 * offR es k) = a + k0 by omega, decide_eq_true (by omega : a ≤ a + k0 ∧ a + k0 < a + 64), show a + k0 - a = k0 by omega, g2]
      cases bitAt L (a + k0) <;> simp
end Larder
