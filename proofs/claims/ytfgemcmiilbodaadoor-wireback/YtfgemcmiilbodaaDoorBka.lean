/- WireBack, in plain words: what is written is read back; a reply made fit. -/
import Derived.Test.YtfgemcmiilbodaaDoorPfb
namespace Larder8
set_option linter.unusedVariables false

theorem spell_no13 (n : Int) : ∀ j, j < (Larder.spellI n).length → (Larder.spellI n).getD j 0 ≠ 13 := by
  intro j hj
  by_cases h : n < 0
  · rw [Larder.spellI_neg n h] at hj ⊢
    cases j with
    | zero => simp
    | succ j =>
      have := (Larder.spell_ok n.natAbs).1.2.2 j (by simpa using hj)
      unfold Larder.isDigit at this
      simp only [List.getD_cons_succ]
      omega
  · rw [Larder.spellI_pos n h] at hj ⊢
    have := (Larder.spell_ok n.toNat).1.2.2 j hj
    unfold Larder.isDigit at this
    omega
theorem numP_back {lo hi n : Int} (c : List Nat) (h1 : lo ≤ n) (h2 : n ≤ hi) (h3 : -9223372036854775808 ≤ n) (h4 : n ≤ 9223372036854775807) : numP lo hi (Larder.spellI n ++ 13 :: 10 :: c) = .ok n c := by
  have hc : crAt (Larder.spellI n ++ 13 :: 10 :: c) = some (Larder.spellI n).length := by
    refine crAt_is _ _ (by simp) ?_ (fun j hj => ?_)
    · rw [List.getD_eq_getElem?_getD, List.getElem?_append_right (Nat.le_refl _)]; simp
    · rw [List.getD_eq_getElem?_getD, List.getElem?_append_left hj, ← List.getD_eq_getElem?_getD]; exact spell_no13 n j hj
  have hsp := Larder.int_spell n h3 h4
  have hv : numV lo hi (Larder.spellI n) = some n := by
    unfold numV
    rw [hsp]
    rw [if_pos ⟨rfl, h1, h2⟩]
  unfold numP
  rw [hc]
  simp only
  rw [List.take_left, hv, List.drop_left]
  rfl
theorem lineP_back {t : List Nat} (c : List Nat) (h1 : t.length ≤ 1024) (h2 : t.any (fun c => c == 13 || c == 10) = false) : lineP (t ++ 13 :: 10 :: c) = .ok t c := by
  have ht : lineT (t ++ 13 :: 10 :: c) = t := by
    unfold lineT
    rw [List.take_append, List.take_of_length_le h1]
    rw [List.takeWhile_append_of_pos (fun a ha => by
      have := List.any_eq_false.1 h2 a ha
      simpa using this)]
    have : List.takeWhile (fun c => !(c == 13 || c == 10)) (List.take (1024 - t.length) (13 :: 10 :: c)) = [] := by
      cases 1024 - t.length with
      | zero => rfl
      | succ k => rfl
    rw [this, List.append_nil]
  unfold lineP
  rw [ht, List.drop_left]
  rfl
theorem bulkP_back {t : List Nat} (c : List Nat) (h : t.length ≤ 4096) : bulkP (Larder.spellI (t.length : Nat) ++ 13 :: 10 :: (t ++ 13 :: 10 :: c)) = .ok (some t) c := by
  unfold bulkP
  rw [numP_back _ (by omega) (by omega) (by omega) (by omega)]
  simp only
  rw [if_neg (by omega), Int.toNat_natCast, if_neg (by simp), List.drop_left, List.take_left]
  rfl
theorem listP_back {α : Type} {f : List Nat → St α} {E : α → List Nat} : ∀ (l : List α) (c : List Nat), (∀ x ∈ l, ∀ c, f (E x ++ c) = .ok x c) → listP f l.length ((l.map E).flatten ++ c) = .ok l c
  | [], c, h => rfl
  | x :: l, c, h => by
    show listP f (l.length + 1) _ = _
    unfold listP
    rw [List.map_cons, List.flatten_cons, List.append_assoc, h x (List.mem_cons_self ..)]
    simp only
    rw [listP_back l c (fun y hy => h y (List.mem_cons_of_mem _ hy))]
    rfl
end Larder8
namespace Go.Proofs.YtfgemcmiilbodaaDoor
open Larder8
set_option linter.unusedVariables false
set_option linter.unusedSimpArgs false

/-- what is written is read back, whatever stands behind -/
theorem rep_back : ∀ (d : Nat) (x : Tr d) (c : List Nat), d ≤ 9 → fitB d x (9 - d) = true → RngN d x → repP d (encL d x ++ c) = .ok x c
  | 0, x, c, _, h, _ => by cases h
  | d + 1, x, c, hd, h, hr => by
    have hx : x = mkR x.nd.k x.nd.n x.nd.t x.nd.l := rfl
    unfold fitB fitK at h
    have hr1 := hr.1
    have hr2 := hr.2
    rw [hx]
    generalize x.nd.k = k at h ⊢
    generalize x.nd.n = n at h hr1 ⊢
    generalize x.nd.t = t at h ⊢
    generalize x.nd.l = l at h hr2 ⊢
    show repP (d + 1) (encK k n t l.length (l.map (encL d)).flatten ++ c) = _
    unfold encK
    split at h
    · rename_i hk
      simp only [Bool.and_eq_true, decide_eq_true_eq, Bool.not_eq_true'] at h
      obtain ⟨⟨⟨rfl, hl⟩, ht⟩, hc⟩ := h
      obtain rfl : l = [] := List.eq_nil_of_length_eq_zero hl
      rcases hk with rfl | rfl
      · rw [if_pos rfl]
        have := lineP_back c ht hc
        simp only [List.cons_append, List.nil_append, List.append_assoc]
        show (if (43 : Nat) = 43 then (lineP (t ++ 13 :: 10 :: c)).map _ else _) = _
        rw [if_pos rfl, this]
        rfl
      · rw [if_neg (by decide), if_pos rfl]
        have := lineP_back c ht hc
        simp only [List.cons_append, List.nil_append, List.append_assoc]
        show (if (45 : Nat) = 43 then _ else if (45 : Nat) = 45 then (lineP (t ++ 13 :: 10 :: c)).map _ else _) = _
        rw [if_neg (by decide), if_pos rfl, this]
        rfl
    split at h
    · rename_i h1 hk
      subst hk
      simp only [Bool.and_eq_true, decide_eq_true_eq] at h
      obtain ⟨ht, hl⟩ := h
      obtain rfl : l = [] := List.eq_nil_of_length_eq_zero hl
      obtain rfl : t = [] := List.eq_nil_of_length_eq_zero ht
      have := numP_back (lo := -9223372036854775808) (hi := 9223372036854775807) c hr1.1 hr1.2 hr1.1 hr1.2
      rw [if_neg (by decide), if_neg (by decide), if_pos rfl]
      unfold numL
      simp only [List.cons_append, List.nil_append, List.append_assoc]
      show (if (58 : Nat) = 43 then _ else if (58 : Nat) = 45 then _ else if (58 : Nat) = 58 then (numP (-9223372036854775808) 9223372036854775807 (Larder.spellI n ++ 13 :: 10 :: c)).map _ else _) = _
      rw [if_neg (by decide), if_neg (by decide), if_pos rfl, this]
      rfl
    split at h
    · rename_i h1 h2 hk
      subst hk
      simp only [Bool.and_eq_true, decide_eq_true_eq] at h
      obtain ⟨⟨rfl, hl⟩, ht⟩ := h
      obtain rfl : l = [] := List.eq_nil_of_length_eq_zero hl
      have := bulkP_back c ht
      rw [if_neg (by decide), if_neg (by decide), if_neg (by decide), if_pos rfl]
      unfold textL numL
      simp only [List.cons_append, List.nil_append, List.append_assoc]
      show (if (36 : Nat) = 43 then _ else if (36 : Nat) = 45 then _ else if (36 : Nat) = 58 then _ else if (36 : Nat) = 36 then (bulkP (Larder.spellI (t.length : Nat) ++ 13 :: 10 :: (t ++ 13 :: 10 :: c))).map _ else _) = _
      rw [if_neg (by decide), if_neg (by decide), if_neg (by decide), if_pos rfl, this]
      rfl
    split at h
    · rename_i h1 h2 h3 hk
      simp only [Bool.and_eq_true, decide_eq_true_eq] at h
      obtain ⟨⟨rfl, ht⟩, hl⟩ := h
      obtain rfl : l = [] := List.eq_nil_of_length_eq_zero hl
      obtain rfl : t = [] := List.eq_nil_of_length_eq_zero ht
      rcases hk with rfl | rfl
      · have := numP_back (lo := -1) (hi := 4096) (n := -1) c (by decide) (by decide) (by decide) (by decide)
        rw [if_neg (by decide), if_neg (by decide), if_neg (by decide), if_neg (by decide), if_pos rfl]
        unfold numL
        simp only [List.cons_append, List.nil_append, List.append_assoc]
        show (if (36 : Nat) = 43 then _ else if (36 : Nat) = 45 then _ else if (36 : Nat) = 58 then _ else if (36 : Nat) = 36 then (bulkP (Larder.spellI (-1) ++ 13 :: 10 :: c)).map _ else _) = _
        rw [if_neg (by decide), if_neg (by decide), if_neg (by decide), if_pos rfl]
        unfold bulkP
        rw [this]
        rfl
      · have := numP_back (lo := -1) (hi := if d = 0 then -1 else 65536) (n := -1) c (by decide) (by split <;> decide) (by decide) (by decide)
        rw [if_neg (by decide), if_neg (by decide), if_neg (by decide), if_neg (by decide), if_neg (by decide), if_pos rfl]
        unfold numL
        simp only [List.cons_append, List.nil_append, List.append_assoc]
        show (if (42 : Nat) = 43 then _ else if (42 : Nat) = 45 then _ else if (42 : Nat) = 58 then _ else if (42 : Nat) = 36 then _ else if (42 : Nat) = 42 then arrP (repP d) (Larder.spellI (-1) ++ 13 :: 10 :: c) else _) = _
        rw [if_neg (by decide), if_neg (by decide), if_neg (by decide), if_neg (by decide), if_pos rfl]
        unfold arrP
        rw [this]
        rfl
    split at h
    · rename_i h1 h2 h3 h4 hk
      subst hk
      simp only [Bool.and_eq_true, decide_eq_true_eq] at h
      obtain ⟨⟨rfl, ht⟩, ⟨hi, hl⟩, hall⟩ := h
      obtain rfl : t = [] := List.eq_nil_of_length_eq_zero ht
      have hd0 : d ≠ 0 := by omega
      have e9 : 9 - (d + 1) + 1 = 9 - d := by omega
      rw [e9] at hall
      have hn := numP_back (lo := -1) (hi := 65536) (n := (l.length : Nat)) ((l.map (encL d)).flatten ++ c) (by omega) (by omega) (by omega) (by omega)
      have hb := listP_back (f := repP d) (E := encL d) l c (fun y hy c => rep_back d y c (by omega) (List.all_eq_true.1 hall y hy) (hr2 y hy))
      rw [if_neg (by decide), if_neg (by decide), if_neg (by decide), if_neg (by decide), if_neg (by decide), if_neg (by decide)]
      unfold numL
      simp only [List.cons_append, List.nil_append, List.append_assoc]
      show (if (42 : Nat) = 43 then _ else if (42 : Nat) = 45 then _ else if (42 : Nat) = 58 then _ else if (42 : Nat) = 36 then _ else if (42 : Nat) = 42 then arrP (repP d) (Larder.spellI (l.length : Nat) ++ 13 :: 10 :: ((l.map (encL d)).flatten ++ c)) else _) = _
      rw [if_neg (by decide), if_neg (by decide), if_neg (by decide), if_neg (by decide), if_pos rfl]
      unfold arrP
      rw [if_neg hd0, hn]
      simp only
      rw [if_neg (by omega), Int.toNat_natCast, hb]
      rfl
    · cases h
/-- a text of one line -/
def cleanL (t : List Nat) : List Nat := (t.filter (fun c => !(c == 13 || c == 10))).take 1024
/-- a reply made fit, below 8 - m arrays -/
def fitT : (d : Nat) → Tr d → (m : Nat) → Tr (m + 1)
  | 0, x, _ => nomatch (show Empty from x)
  | d + 1, x, m =>
    if x.nd.k = 1 ∨ x.nd.k = 2 then mkR x.nd.k 0 (cleanL x.nd.t) []
    else if x.nd.k = 3 then mkR 3 x.nd.n [] []
    else if x.nd.k = 4 then mkR 4 0 (x.nd.t.take 4096) []
    else if x.nd.k = 6 then (match m with | 0 => mkR 5 0 [] [] | m + 1 => mkR 6 0 [] ((x.nd.l.take 1000).map (fun y => fitT d y m)))
    else if x.nd.k = 7 then mkR 7 0 [] []
    else mkR 5 0 [] []
theorem clean_ok (t : List Nat) : (cleanL t).length ≤ 1024 ∧ crlf (cleanL t) = false ∧ (cleanL t).length ≤ t.length := by
  unfold cleanL crlf
  refine ⟨by rw [List.length_take]; omega, ?_, ?_⟩
  · rw [List.any_eq_false]
    intro c hc
    have := (List.mem_filter.1 (List.mem_of_mem_take hc)).2
    simpa using this
  · rw [List.length_take]
    have := List.length_filter_le (fun c => !(c == 13 || c == 10)) t
    omega
theorem fitT_ok : ∀ (d : Nat) (x : Tr d) (m : Nat), m ≤ 8 → RngN d x → fitB (m + 1) (fitT d x m) (8 - m) = true ∧ RngN (m + 1) (fitT d x m) ∧ sz (m + 1) (fitT d x m) ≤ sz d x
  | 0, x, m, _, _ => nomatch (show Empty from x)
  | d + 1, x, m, hm, hr => by
    have z0 : (-9223372036854775808 : Int) ≤ 0 ∧ (0 : Int) ≤ 9223372036854775807 := by decide
    have hs : sz (d + 1) x = 10 + x.nd.t.length + (x.nd.l.map (sz d)).sum := rfl
    unfold fitT
    split
    · rename_i hk
      obtain ⟨c1, c2, c3⟩ := clean_ok x.nd.t
      refine ⟨?_, .leaf _ _ _ z0, ?_⟩
      · show fitK x.nd.k 0 (cleanL x.nd.t) 0 _ = true
        unfold fitK
        rw [if_pos hk, c2]
        simp [c1]
      · show 10 + (cleanL x.nd.t).length + 0 ≤ _
        omega
    split
    · refine ⟨rfl, .leaf _ _ _ hr.1, ?_⟩
      show 10 + 0 + 0 ≤ _
      omega
    split
    · refine ⟨?_, .leaf _ _ _ z0, ?_⟩
      · show fitK 4 0 (x.nd.t.take 4096) 0 _ = true
        unfold fitK
        simp
        omega
      · show 10 + (x.nd.t.take 4096).length + 0 ≤ _
        rw [List.length_take]
        omega
    split
    · cases m with
      | zero =>
        refine ⟨rfl, .leaf _ _ _ z0, ?_⟩
        show 10 + 0 + 0 ≤ _
        omega
      | succ m =>
        have ih : ∀ y ∈ x.nd.l, _ := fun y hy => fitT_ok d y m (by omega) (hr.2 y hy)
        refine ⟨?_, ⟨z0, fun y hy => ?_⟩, ?_⟩
        · show fitK 6 0 [] ((x.nd.l.take 1000).map (fun y => fitT d y m)).length (decide (8 - (m + 1) + 1 ≤ 8) && decide (((x.nd.l.take 1000).map (fun y => fitT d y m)).length ≤ 65536) && ((x.nd.l.take 1000).map (fun y => fitT d y m)).all (fun y => fitB (m + 1) y (8 - (m + 1) + 1))) = true
          have e8 : 8 - (m + 1) + 1 = 8 - m := by omega
          have h1 : ((x.nd.l.take 1000).map (fun y => fitT d y m)).all (fun y => fitB (m + 1) y (8 - m)) = true := List.all_eq_true.2 (fun y hy => by
            obtain ⟨z, hz, rfl⟩ := List.mem_map.1 hy
            exact (ih z (List.mem_of_mem_take hz)).1)
          have h2 : decide (((x.nd.l.take 1000).map (fun y => fitT d y m)).length ≤ 65536) = true := decide_eq_true (by rw [List.length_map, List.length_take]; omega)
          have h3 : decide (8 - m ≤ 8) = true := decide_eq_true (by omega)
          rw [e8, h1, h2, h3]
          rfl
        · obtain ⟨z, hz, rfl⟩ := List.mem_map.1 hy
          exact (ih z (List.mem_of_mem_take hz)).2.1
        · show 10 + 0 + (((x.nd.l.take 1000).map (fun y => fitT d y m)).map (sz (m + 1))).sum ≤ _
          have h1 : ∀ (l : List (Tr d)), (∀ y ∈ l, sz (m + 1) (fitT d y m) ≤ sz d y) → ((l.map (fun y => fitT d y m)).map (sz (m + 1))).sum ≤ (l.map (sz d)).sum := by
            intro l
            induction l with
            | nil => intro _; simp
            | cons y l ihl =>
              intro hl
              have a1 := hl y (List.mem_cons_self ..)
              have a2 := ihl (fun z hz => hl z (List.mem_cons_of_mem _ hz))
              simp only [List.map_cons, List.sum_cons]
              omega
          have h2 := h1 (x.nd.l.take 1000) (fun y hy => (ih y (List.mem_of_mem_take hy)).2.2)
          have h3 : ((x.nd.l.take 1000).map (sz d)).sum ≤ (x.nd.l.map (sz d)).sum := by
            have : x.nd.l = x.nd.l.take 1000 ++ x.nd.l.drop 1000 := (List.take_append_drop _ _).symm
            conv => rhs; rw [this]
            rw [List.map_append, List.sum_append]
            omega
          omega
    split
    · refine ⟨rfl, .leaf _ _ _ z0, ?_⟩
      show 10 + 0 + 0 ≤ _
      omega
    · refine ⟨rfl, .leaf _ _ _ z0, ?_⟩
      show 10 + 0 + 0 ≤ _
      omega
end Go.Proofs.YtfgemcmiilbodaaDoor
