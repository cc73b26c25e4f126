/- Decode and Encode, in plain words: what is read is what would be written. -/
import Derived.Test.YtfgemcmiilbodaaDoorPfa
import Derived.Test.YtfgemcmiilbodaaDoorDcq
import Derived.Test.YtfgemcmiilbodaaDoorAdr
namespace Go.Proofs.YtfgemcmiilbodaaDoor
open Larder8
set_option linter.unusedVariables false
set_option linter.unusedSimpArgs false

theorem arrP_grows {d : Nat} {f : List Nat → St (Tr d)} (hf : Grows f) : Grows (arrP f) := by
  have hg : Grows (numP (-1) (if d = 0 then -1 else 65536)) := numP_grows (by decide) (by split <;> decide)
  refine ⟨fun b x r c e => ?_, fun b c e => ?_⟩
  · unfold arrP at e ⊢
    cases hn : numP (-1) (if d = 0 then -1 else 65536) b with
    | short => rw [hn] at e; cases e
    | wrong => rw [hn] at e; cases e
    | ok n s =>
      rw [hn] at e
      rw [hg.ok b n s c hn]
      simp only at e ⊢
      split at e
      · rename_i h; cases e; rw [if_pos h]
      · rename_i h
        rw [if_neg h]
        obtain ⟨z, h1, rfl⟩ := map_ok e
        rw [(listP_grows hf _).ok _ _ _ c h1]
        rfl
  · unfold arrP at e ⊢
    cases hn : numP (-1) (if d = 0 then -1 else 65536) b with
    | short => rw [hn] at e; cases e
    | wrong => rw [hg.bad b c hn]
    | ok n s =>
      rw [hn] at e
      rw [hg.ok b n s c hn]
      simp only at e ⊢
      split at e
      · cases e
      · rename_i h
        rw [if_neg h, (listP_grows hf _).bad _ c (map_bad e)]
        rfl
theorem repP_grows : ∀ d, Grows (repP d)
  | 0 => ⟨fun b x r c e => (by cases e), fun b c e => rfl⟩
  | d + 1 => by
    have hn : Grows (numP (-9223372036854775808) 9223372036854775807) := numP_grows (by decide) (by decide)
    have ha := arrP_grows (repP_grows d)
    refine ⟨fun b x r c e => ?_, fun b c e => ?_⟩
    · cases b with
      | nil => cases e
      | cons m b =>
        show repP (d + 1) (m :: (b ++ c)) = _
        unfold repP at e ⊢
        split at e
        · rename_i h; rw [if_pos h]; exact (lineP_grows.map _).ok b x r c e
        · rename_i h; rw [if_neg h]
          split at e
          · rename_i h; rw [if_pos h]; exact (lineP_grows.map _).ok b x r c e
          · rename_i h; rw [if_neg h]
            split at e
            · rename_i h; rw [if_pos h]; exact (hn.map _).ok b x r c e
            · rename_i h; rw [if_neg h]
              split at e
              · rename_i h; rw [if_pos h]; exact (bulkP_grows.map _).ok b x r c e
              · rename_i h; rw [if_neg h]
                split at e
                · rename_i h; rw [if_pos h]; exact ha.ok b x r c e
                · cases e
    · cases b with
      | nil => cases e
      | cons m b =>
        show repP (d + 1) (m :: (b ++ c)) = _
        unfold repP at e ⊢
        split at e
        · rename_i h; rw [if_pos h]; exact (lineP_grows.map _).bad b c e
        · rename_i h; rw [if_neg h]
          split at e
          · rename_i h; rw [if_pos h]; exact (lineP_grows.map _).bad b c e
          · rename_i h; rw [if_neg h]
            split at e
            · rename_i h; rw [if_pos h]; exact (hn.map _).bad b c e
            · rename_i h; rw [if_neg h]
              split at e
              · rename_i h; rw [if_pos h]; exact (bulkP_grows.map _).bad b c e
              · rename_i h; rw [if_neg h]
                split at e
                · rename_i h; rw [if_pos h]; exact ha.bad b c e
                · rename_i h; rw [if_neg h]
/-- its numbers are numbers -/
def RngN : (d : Nat) → Tr d → Prop
  | 0, _ => True
  | d + 1, x => (-9223372036854775808 ≤ x.nd.n ∧ x.nd.n ≤ 9223372036854775807) ∧ ∀ y ∈ x.nd.l, RngN d y
theorem RngN.leaf {d : Nat} (k n : Int) (t : List Nat) (h : -9223372036854775808 ≤ n ∧ n ≤ 9223372036854775807) : RngN (d + 1) (mkR k n t []) := ⟨h, fun y hy => by cases hy⟩
/-- what a reply that was read is: its text, that it may be written, that its numbers are numbers -/
def ReadOk (d : Nat) (x : Tr d) (b r : List Nat) : Prop := encL d x ++ r = b ∧ encL d x ≠ [] ∧ (d ≤ 9 → fitB d x (9 - d) = true) ∧ RngN d x
theorem repP_text : ∀ (d : Nat) (b : List Nat) (x : Tr d) (r : List Nat), repP d b = .ok x r → ReadOk d x b r
  | 0, b, x, r, h => by cases h
  | d + 1, [], x, r, h => by cases h
  | d + 1, m :: b, x, r, h => by
    unfold repP at h
    split at h
    · rename_i hm
      subst hm
      obtain ⟨t, h1, rfl⟩ := map_ok h
      obtain ⟨q1, q2, q3⟩ := lineP_text h1
      refine ⟨?_, by simp [encL, mkR, Tr.nd, encK], fun _ => ?_, .leaf _ _ _ ⟨by decide, by decide⟩⟩
      · show ([43] ++ t ++ [13, 10]) ++ r = 43 :: b
        rw [← q1]; simp
      · show fitK 1 0 t 0 _ = true
        unfold fitK crlf
        rw [if_pos (.inl rfl)]
        simp [q2, q3]
    split at h
    · rename_i hm
      subst hm
      obtain ⟨t, h1, rfl⟩ := map_ok h
      obtain ⟨q1, q2, q3⟩ := lineP_text h1
      refine ⟨?_, by simp [encL, mkR, Tr.nd, encK], fun _ => ?_, .leaf _ _ _ ⟨by decide, by decide⟩⟩
      · show ([45] ++ t ++ [13, 10]) ++ r = 45 :: b
        rw [← q1]; simp
      · show fitK 2 0 t 0 _ = true
        unfold fitK crlf
        rw [if_pos (.inr rfl)]
        simp [q2, q3]
    split at h
    · rename_i hm
      subst hm
      obtain ⟨n, h1, rfl⟩ := map_ok h
      obtain ⟨q1, q2, q3, q4, q5⟩ := numP_text h1
      refine ⟨?_, by simp [encL, mkR, Tr.nd, encK, numL], fun _ => ?_, .leaf _ _ _ ⟨q4, q5⟩⟩
      · show numL 58 n ++ r = 58 :: b
        rw [← q1]; simp [numL]
      · show fitK 3 n [] 0 _ = true
        unfold fitK
        simp
    split at h
    · rename_i hm
      subst hm
      obtain ⟨o, h1, rfl⟩ := map_ok h
      cases o with
      | none =>
        have q1 := bulkP_none h1
        refine ⟨?_, by simp [encL, mkR, Tr.nd, encK, numL], fun _ => ?_, .leaf _ _ _ ⟨by decide, by decide⟩⟩
        · show numL 36 (-1) ++ r = 36 :: b
          rw [← q1]; simp [numL]
        · show fitK 5 0 [] 0 _ = true
          unfold fitK
          simp
      | some t =>
        obtain ⟨q1, q2⟩ := bulkP_some h1
        refine ⟨?_, by simp [encL, mkR, Tr.nd, encK, textL, numL], fun _ => ?_, .leaf _ _ _ ⟨by decide, by decide⟩⟩
        · show textL t ++ r = 36 :: b
          rw [← q1]; simp [textL, numL]
        · show fitK 4 0 t 0 _ = true
          unfold fitK
          simp [q2]
    split at h
    · rename_i hm
      subst hm
      unfold arrP at h
      cases hn : numP (-1) (if d = 0 then -1 else 65536) b with
      | short => rw [hn] at h; cases h
      | wrong => rw [hn] at h; cases h
      | ok n s =>
        rw [hn] at h
        obtain ⟨q1, q2, q3, q4, q5⟩ := numP_text hn
        simp only at h
        split at h
        · rename_i hn1
          subst hn1
          cases h
          refine ⟨?_, by simp [encL, mkR, Tr.nd, encK, numL], fun _ => ?_, .leaf _ _ _ ⟨by decide, by decide⟩⟩
          · show numL 42 (-1) ++ r = 42 :: b
            rw [← q1]; simp [numL]
          · show fitK 7 0 [] 0 _ = true
            unfold fitK
            simp
        · rename_i hn1
          obtain ⟨l, h1, rfl⟩ := map_ok h
          obtain ⟨p1, p2⟩ := listP_text (E := encL d) (fun b x r hx => (repP_text d b x r hx).1) _ _ _ _ h1
          have p3 := listP_all (Q := fun x => d ≤ 9 → fitB d x (9 - d) = true) (fun b x r hx => (repP_text d b x r hx).2.2.1) _ _ _ _ h1
          have p4 := listP_all (Q := RngN d) (fun b x r hx => (repP_text d b x r hx).2.2.2) _ _ _ _ h1
          have hnn : ((n.toNat : Nat) : Int) = n := Int.toNat_of_nonneg (by omega)
          refine ⟨?_, by simp [encL, mkR, Tr.nd, encK, numL], fun hd => ?_, ⟨⟨by show (-9223372036854775808 : Int) ≤ 0; decide, by show (0 : Int) ≤ 9223372036854775807; decide⟩, p4⟩⟩
          · show (numL 42 ((l.length : Nat) : Int) ++ (l.map (encL d)).flatten) ++ r = 42 :: b
            rw [p2, hnn, ← q1, List.append_assoc, p1]
            simp [numL]
          · show fitK 6 0 [] l.length (decide ((9 - (d + 1)) + 1 ≤ 8) && decide (l.length ≤ 65536) && l.all (fun y => fitB d y ((9 - (d + 1)) + 1))) = true
            have e9 : 9 - (d + 1) + 1 = 9 - d := by omega
            have hd0 : d ≠ 0 := by
              intro e
              subst e
              simp only [if_pos] at q3
              omega
            rw [if_neg hd0] at q3
            have hall : l.all (fun y => fitB d y (9 - d)) = true := List.all_eq_true.2 (fun y hy => p3 y hy (by omega))
            have h8 : decide (9 - d ≤ 8) = true := decide_eq_true (by omega)
            have h6 : decide (l.length ≤ 65536) = true := decide_eq_true (by omega)
            rw [e9, hall, h8, h6]
            rfl
    · cases h
theorem sum_enc {α : Type} (f : α → List Nat) (g : α → Nat) : ∀ (l : List α), (∀ y ∈ l, g y ≤ 4 * (f y).length) → (l.map g).sum ≤ 4 * (l.map f).flatten.length
  | [], _ => by simp
  | x :: l, h => by
    have h1 := h x (List.mem_cons_self ..)
    have h2 := sum_enc f g l (fun y hy => h y (List.mem_cons_of_mem _ hy))
    simp only [List.map_cons, List.flatten_cons, List.length_append, List.sum_cons]
    omega
/-- a reply that may be written is not much greater than its bytes -/
theorem fit_size : ∀ (d : Nat) (x : Tr d) (i : Nat), fitB d x i = true → sz d x ≤ 4 * (encL d x).length
  | 0, x, i, h => by cases h
  | d + 1, x, i, h => by
    unfold fitB fitK at h
    show 10 + x.nd.t.length + (x.nd.l.map (sz d)).sum ≤ 4 * (encK _ _ _ _ _).length
    unfold encK
    split at h
    · rename_i hk
      simp only [Bool.and_eq_true, decide_eq_true_eq] at h
      have hl : x.nd.l = [] := List.eq_nil_of_length_eq_zero h.1.1.2
      rcases hk with hk | hk <;> simp [hk, hl] <;> omega
    split at h
    · rename_i h1 hk
      simp only [Bool.and_eq_true, decide_eq_true_eq] at h
      have hl : x.nd.l = [] := List.eq_nil_of_length_eq_zero h.2
      simp [hk, hl, numL, h.1] ; omega
    split at h
    · rename_i h1 h2 hk
      simp only [Bool.and_eq_true, decide_eq_true_eq] at h
      have hl : x.nd.l = [] := List.eq_nil_of_length_eq_zero h.1.2
      simp [hk, hl, textL, numL]; omega
    split at h
    · rename_i h1 h2 h3 hk
      simp only [Bool.and_eq_true, decide_eq_true_eq] at h
      have hl : x.nd.l = [] := List.eq_nil_of_length_eq_zero h.2
      rcases hk with hk | hk <;> simp [hk, hl, numL, h.1.2] <;> omega
    split at h
    · rename_i h1 h2 h3 h4 hk
      simp only [Bool.and_eq_true, decide_eq_true_eq] at h
      have hs := sum_enc (encL d) (sz d) x.nd.l (fun y hy => fit_size d y (i + 1) (List.all_eq_true.1 h.2.2 y hy))
      have ht := h.1.2
      simp only [hk]
      simp [numL, ht]
      simp at hs
      omega
    · cases h
theorem OwnB.le {w : World} {base : Nat} {v : Value} {l : List Nat} (h : OwnB w base v l) : ∃ a cap, v = .slice a l.length cap ∧ Bytes w a l ∧ l.length ≤ cap := by
  obtain ⟨a, cap, hv, hB, h0⟩ := h.shape
  refine ⟨a, cap, hv, hB, ?_⟩
  rcases h.2 with ⟨e, hn⟩ | ⟨g, c, cur, e, hb, hg, hnc, _⟩
  · rw [hn]; exact Nat.zero_le _
  · rw [hv] at e
    cases e
    exact hnc
/-- a reply that owns its memory lies in memory -/
theorem DrAt.rp {w : World} : ∀ {d : Nat} {S : Nat → Prop} {x : Tr d} {v0 v1 v2 v3 : Value} (i : Nat), DrAt w d S x v0 v1 v2 v3 → fitB d x i = true → RngN d x → RpAt w d x v0 v1 v2 v3
  | 0, _, _, _, _, _, _, i, h, _, _ => h
  | d + 1, S, x, v0, v1, v2, v3, i, ⟨h0, h1, ⟨h2, h3, h4⟩, f, h5, h6, h7⟩, hf, hr => by
    obtain ⟨a, cap, e2, hB, hle⟩ := h2.le
    have hk : (1 ≤ x.nd.k ∧ x.nd.k ≤ 7) ∧ x.nd.t.length ≤ 4096 ∧ x.nd.l.length ≤ 65536 ∧ ∀ y ∈ x.nd.l, fitB d y (i + 1) = true := by
      unfold fitB fitK at hf
      have nol : x.nd.l.length = 0 → ∀ y ∈ x.nd.l, fitB d y (i + 1) = true := fun e y hy => by
        rw [List.eq_nil_of_length_eq_zero e] at hy
        cases hy
      split at hf
      · rename_i hk
        simp only [Bool.and_eq_true, decide_eq_true_eq] at hf
        exact ⟨by omega, by omega, by omega, nol hf.1.1.2⟩
      split at hf
      · rename_i h1 hk
        simp only [Bool.and_eq_true, decide_eq_true_eq] at hf
        exact ⟨by omega, by omega, by omega, nol hf.2⟩
      split at hf
      · rename_i h1 h2 hk
        simp only [Bool.and_eq_true, decide_eq_true_eq] at hf
        exact ⟨by omega, by omega, by omega, nol hf.1.2⟩
      split at hf
      · rename_i h1 h2 h3 hk
        simp only [Bool.and_eq_true, decide_eq_true_eq] at hf
        exact ⟨by omega, by omega, by omega, nol hf.2⟩
      split at hf
      · rename_i h1 h2 h3 h4 hk
        simp only [Bool.and_eq_true, decide_eq_true_eq] at hf
        exact ⟨by omega, by omega, hf.2.1.2, fun y hy => List.all_eq_true.1 hf.2.2 y hy⟩
      · cases hf
    obtain ⟨hk1, hk2, hk3, hk4⟩ := hk
    refine ⟨⟨h0, by omega, by omega⟩, ⟨h1, hr.1⟩, ⟨a, cap, e2, hB, h3, by omega, hle⟩, ?_⟩
    rcases h5 with ⟨e, hn⟩ | ⟨b, c, cur, e, hg, hnc, hcm, hcs, hc⟩
    · exact ⟨none, 0, by rw [hn]; exact e, by omega, .inl (List.eq_nil_of_length_eq_zero hn)⟩
    · refine ⟨_, _, e, by omega, .inr ⟨b, 0, rfl, block_lt hg, fun j y hj => ?_⟩⟩
      have hj2 : j < x.nd.l.length := (List.getElem?_eq_some_iff.1 hj).1
      have hy : y ∈ x.nd.l := List.mem_of_getElem? hj
      refine ⟨f (j * 4), f (j * 4 + 1), f (j * 4 + 2), f (j * 4 + 3), ?_, ?_, ?_, ?_, (h7 j y hj).rp (i + 1) (hk4 y hy) (hr.2 y hy)⟩
      all_goals
        rw [cell_of_row _ _ _ _ _ _ hg]
        simp only [Nat.zero_add]
        exact hc _ (by omega)
end Go.Proofs.YtfgemcmiilbodaaDoor
