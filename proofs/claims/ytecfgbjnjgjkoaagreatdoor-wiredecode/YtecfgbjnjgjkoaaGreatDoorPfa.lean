/- Decode, in plain words: what more bytes do to it. -/
import Derived.Test.YtecfgbjnjgjkoaaGreatDoorDcM
import Derived.Test.YtecfgbjnjgjkoaaGreatDoorTextMath
namespace Larder8
set_option linter.unusedVariables false

/-- what is read stays read, what is wrong stays wrong, whatever comes behind -/
structure Grows {α : Type} (f : List Nat → St α) : Prop where
  ok : ∀ b x r c, f b = .ok x r → f (b ++ c) = .ok x (r ++ c)
  bad : ∀ b c, f b = .wrong → f (b ++ c) = .wrong
/-- a beginning's beginning is one -/
theorem Grows.short {α : Type} {f : List Nat → St α} (h : Grows f) {b c : List Nat} (e : f (b ++ c) = .short) : f b = .short := by
  cases hb : f b with
  | short => rfl
  | wrong => rw [h.bad b c hb] at e; cases e
  | ok x r => rw [h.ok b x r c hb] at e; cases e
/-- less than what was read is a beginning -/
theorem Grows.cut {α : Type} {f : List Nat → St α} (h : Grows f) {b c r : List Nat} {x : α} (e : f (b ++ c) = .ok x r) (hl : r.length < c.length) : f b = .short := by
  cases hb : f b with
  | short => rfl
  | wrong => rw [h.bad b c hb] at e; cases e
  | ok y s =>
    rw [h.ok b y s c hb] at e
    cases e
    simp only [List.length_append] at hl
    omega
theorem map_ok {α β : Type} {f : α → β} {P : St α} {y : β} {r : List Nat} (h : P.map f = .ok y r) : ∃ x, P = .ok x r ∧ y = f x := by
  cases P with
  | ok x s => cases h; exact ⟨x, rfl, rfl⟩
  | short => cases h
  | wrong => cases h
theorem map_bad {α β : Type} {f : α → β} {P : St α} (h : P.map f = .wrong) : P = .wrong := by
  cases P with
  | ok x s => cases h
  | short => cases h
  | wrong => rfl
theorem Grows.map {α β : Type} {f : List Nat → St α} (g : α → β) (h : Grows f) : Grows (fun b => (f b).map g) := by
  refine ⟨fun b x r c e => ?_, fun b c e => ?_⟩
  · obtain ⟨y, h1, rfl⟩ := map_ok e
    simp only [h.ok b y r c h1]
    rfl
  · simp only [h.bad b c (map_bad e)]
    rfl
theorem endP_grows : Grows endP := by
  refine ⟨fun b x r c e => ?_, fun b c e => ?_⟩
  · cases x
    rw [endP_ok e]
    rfl
  · match b, e with
    | [], e => cases e
    | [x], e =>
      simp only [endP] at e
      split at e
      · cases e
      · rename_i hx
        cases c with
        | nil => simp [endP, hx]
        | cons y c => simp [endP, hx]
    | x :: y :: r, e =>
      simp only [endP] at e
      split at e
      · cases e
      · rename_i hx
        show endP (x :: y :: (r ++ c)) = _
        simp only [endP]
        rw [if_neg hx]
theorem crAt_app {b : List Nat} {i : Nat} (c : List Nat) (h : crAt b = some i) : crAt (b ++ c) = some i := by
  obtain ⟨h1, h2, h3⟩ := crAt_lt b i h
  refine crAt_is _ _ (by simp; omega) ?_ (fun j hj => ?_)
  · rw [List.getD_eq_getElem?_getD, List.getElem?_append_left h1, ← List.getD_eq_getElem?_getD]; exact h2
  · rw [List.getD_eq_getElem?_getD, List.getElem?_append_left (by omega), ← List.getD_eq_getElem?_getD]; exact h3 j hj
/-- a beginning of a plain number is one -/
theorem plain_pre {b c : List Nat} (hb : b ≠ []) (h : Larder.Plain (b ++ c)) : Larder.Plain b ∧ Larder.numOf b ≤ Larder.numOf (b ++ c) := by
  obtain ⟨h1, h2, h3⟩ := h
  have hl : 0 < b.length := List.length_pos_iff.2 hb
  have ge : ∀ i, i < b.length → (b ++ c).getD i 0 = b.getD i 0 := fun i hi => by
    rw [List.getD_eq_getElem?_getD, List.getElem?_append_left hi, ← List.getD_eq_getElem?_getD]
  refine ⟨⟨hl, fun e => h2 ⟨by rw [ge 0 hl]; exact e.1, by simp; omega⟩, fun i hi => ?_⟩, ?_⟩
  · have := h3 i (by simp; omega)
    rwa [ge i hi] at this
  · have e : ∀ k, k ≤ b.length → Larder.numK (b ++ c) k = Larder.numK b k := by
      intro k
      induction k with
      | zero => intro _; rfl
      | succ k ih => intro hk; rw [Larder.numK_succ, Larder.numK_succ, ih (by omega), ge k (by omega)]
    have := Larder.numK_le (b ++ c) b.length (by simp)
    rw [e _ (Nat.le_refl _)] at this
    exact this
theorem numV_some {lo hi : Int} {t : List Nat} {n : Int} (h : numV lo hi t = some n) : (Larder.intRes t).2 = 0 ∧ (Larder.intRes t).1 = n ∧ lo ≤ n ∧ n ≤ hi := by
  unfold numV at h
  split at h
  · rename_i hc; cases h; exact ⟨hc.1, rfl, hc.2⟩
  · cases h
/-- a beginning of a number is nothing, the sign, or a number -/
theorem begun_num {lo hi : Int} (h0 : lo ≤ 0) (h1 : -1 ≤ hi) {b c : List Nat} {n : Int} (h : numV lo hi (b ++ c) = some n) : begunP lo hi b = true := by
  classical
  obtain ⟨e0, e1, e2, e3⟩ := numV_some h
  unfold begunP
  by_cases hb : b = []
  · rw [if_pos hb]
  rw [if_neg hb]
  rw [Larder.intRes_def] at e0 e1
  obtain ⟨x, b', rfl⟩ := List.exists_cons_of_ne_nil hb
  simp only [List.cons_append, List.getD_cons_zero, List.drop_succ_cons, List.drop_zero] at e0 e1
  by_cases hx : x = 45
  · subst hx
    rw [if_pos rfl] at e0 e1
    by_cases hp : Larder.Plain (b' ++ c) ∧ (b' ++ c).getD 0 0 ≠ 48
    · rw [if_pos hp] at e0 e1
      by_cases hs : Larder.numOf (b' ++ c) ≤ 9223372036854775808
      · rw [if_pos hs] at e0 e1
        simp only at e1
        have hge := Larder.numK_ge (b' ++ c) hp.1.2.2 hp.2 0 hp.1.1
        have hle := Larder.numK_le (b' ++ c) 1 hp.1.1
        have hge' : 1 ≤ Larder.numK (b' ++ c) 1 := hge
        by_cases hb' : b' = []
        · subst hb'
          rw [if_pos rfl]
          simp only [decide_eq_true_iff]
          omega
        · rw [if_neg (by simpa using hb')]
          obtain ⟨p1, p2⟩ := plain_pre hb' hp.1
          have hl : 0 < b'.length := List.length_pos_iff.2 hb'
          have hh : b'.getD 0 0 ≠ 48 := by
            have := hp.2
            rwa [List.getD_eq_getElem?_getD, List.getElem?_append_left hl, ← List.getD_eq_getElem?_getD] at this
          have hge2 := Larder.numK_ge b' p1.2.2 hh 0 p1.1
          have hle2 := Larder.numK_le b' 1 p1.1
          have hge3 : 1 ≤ Larder.numK b' 1 := hge2
          have e : Larder.intRes (45 :: b') = (-(Larder.numOf b' : Int), 0) := by
            rw [Larder.intRes_def]
            simp only [List.getD_cons_zero, List.drop_succ_cons, List.drop_zero]
            rw [if_pos trivial, if_pos ⟨p1, hh⟩, if_pos (by omega)]
          unfold numV
          rw [e, if_pos ⟨rfl, by simp only; omega, by simp only; omega⟩]
          rfl
      · rw [if_neg hs] at e0; exact absurd e0 (by decide)
    · rw [if_neg hp] at e0; exact absurd e0 (by decide)
  · rw [if_neg hx] at e0 e1
    rw [if_neg (by intro e; cases e; exact hx rfl)]
    by_cases hp : Larder.Plain (x :: (b' ++ c))
    · rw [if_pos hp] at e0 e1
      by_cases hs : Larder.numOf (x :: (b' ++ c)) < 9223372036854775808
      · rw [if_pos hs] at e0 e1
        simp only at e1
        obtain ⟨p1, p2⟩ := plain_pre (b := x :: b') (c := c) hb hp
        simp only [List.cons_append] at p2
        have e : Larder.intRes (x :: b') = ((Larder.numOf (x :: b') : Int), 0) := by
          rw [Larder.intRes_def]
          simp only [List.getD_cons_zero]
          rw [if_neg hx, if_pos p1, if_pos (by omega)]
        unfold numV
        rw [e, if_pos ⟨rfl, by simp only; omega, by simp only; omega⟩]
        rfl
      · rw [if_neg hs] at e0; exact absurd e0 (by decide)
    · rw [if_neg hp] at e0; exact absurd e0 (by decide)
theorem begun_pre {lo hi : Int} (h0 : lo ≤ 0) (h1 : -1 ≤ hi) {b c : List Nat} (h : begunP lo hi (b ++ c) = true) : begunP lo hi b = true := by
  by_cases hb : b = []
  · unfold begunP; rw [if_pos hb]
  · have h' := h
    unfold begunP at h
    rw [if_neg (by simp [hb])] at h
    by_cases hm : b ++ c = [45]
    · obtain ⟨x, b', rfl⟩ := List.exists_cons_of_ne_nil hb
      simp only [List.cons_append, List.cons.injEq, List.append_eq_nil_iff] at hm
      obtain ⟨rfl, rfl, rfl⟩ := hm
      exact h'
    · rw [if_neg hm] at h
      obtain ⟨n, hn⟩ := Option.isSome_iff_exists.1 h
      exact begun_num h0 h1 hn
theorem numP_grows {lo hi : Int} (h0 : lo ≤ 0) (h1 : -1 ≤ hi) : Grows (numP lo hi) := by
  refine ⟨fun b x r c e => ?_, fun b c e => ?_⟩
  · unfold numP at e
    cases hc : crAt b with
    | none => rw [hc] at e; simp only at e; split at e <;> cases e
    | some i =>
      rw [hc] at e
      simp only at e
      have hib := (crAt_lt b i hc).1
      cases hn : numV lo hi (b.take i) with
      | none => rw [hn] at e; cases e
      | some n =>
        rw [hn] at e
        obtain ⟨u, h2, rfl⟩ := map_ok e
        cases u
        unfold numP
        rw [crAt_app c hc]
        simp only
        rw [List.take_append_of_le_length (by omega), hn, List.drop_append_of_le_length (by omega)]
        simp only
        rw [endP_grows.ok _ _ _ c h2]
        rfl
  · unfold numP at e
    cases hc : crAt b with
    | none =>
      rw [hc] at e
      simp only at e
      split at e
      · cases e
      · rename_i hb
        unfold numP
        cases hc2 : crAt (b ++ c) with
        | none =>
          simp only
          rw [if_neg (fun e => hb (begun_pre h0 h1 e))]
        | some i =>
          simp only
          obtain ⟨q1, q2, q3⟩ := crAt_lt _ _ hc2
          have hle : b.length ≤ i := by
            rcases Nat.lt_or_ge i b.length with q | q
            · exfalso
              refine crAt_none b hc i q ?_
              rwa [List.getD_eq_getElem?_getD, List.getElem?_append_left q, ← List.getD_eq_getElem?_getD] at q2
            · exact q
          cases hn : numV lo hi ((b ++ c).take i) with
          | none => rfl
          | some n =>
            exfalso
            rw [List.take_append, List.take_of_length_le hle] at hn
            exact hb (begun_num h0 h1 hn)
    | some i =>
      rw [hc] at e
      simp only at e
      have hib := (crAt_lt b i hc).1
      unfold numP
      rw [crAt_app c hc]
      simp only
      rw [List.take_append_of_le_length (by omega), List.drop_append_of_le_length (by omega)]
      cases hn : numV lo hi (b.take i) with
      | none => rfl
      | some n =>
        rw [hn] at e
        simp only
        rw [endP_grows.bad _ c (map_bad e)]
        rfl
theorem takeWhile_app {α : Type} (p : α → Bool) : ∀ (l m : List α), (l.takeWhile p).length < l.length → (l ++ m).takeWhile p = l.takeWhile p
  | [], m, h => by simp at h
  | x :: l, m, h => by
    simp only [List.cons_append, List.takeWhile_cons] at h ⊢
    by_cases hx : p x = true
    · rw [if_pos hx] at h ⊢
      rw [if_pos hx, takeWhile_app p l m (by simpa using h)]
    · rw [if_neg hx, if_neg hx]
theorem lineT_len (b : List Nat) : (lineT b).length ≤ 1024 ∧ (lineT b).length ≤ b.length := by
  have h := (List.takeWhile_sublist (fun c => !(c == 13 || c == 10)) (l := b.take 1024)).length_le
  rw [List.length_take] at h
  unfold lineT
  omega
theorem lineT_app {b : List Nat} (c : List Nat) (h : (lineT b).length < b.length) : lineT (b ++ c) = lineT b := by
  rcases Nat.lt_or_ge b.length 1024 with q | q
  · have e : b.take 1024 = b := List.take_of_length_le (by omega)
    unfold lineT at h ⊢
    rw [e] at h ⊢
    rw [List.take_append, e]
    exact takeWhile_app _ _ _ h
  · unfold lineT
    rw [List.take_append_of_le_length q]
theorem lineP_grows : Grows lineP := by
  refine ⟨fun b x r c e => ?_, fun b c e => ?_⟩
  · unfold lineP at e
    obtain ⟨u, h2, rfl⟩ := map_ok e
    cases u
    have hl : (lineT b).length < b.length := by
      have := congrArg List.length (endP_ok h2)
      simp only [List.length_drop, List.length_cons] at this
      omega
    unfold lineP
    rw [lineT_app c hl, List.drop_append_of_le_length (by omega), endP_grows.ok _ _ _ c h2]
    rfl
  · unfold lineP at e
    have h2 := map_bad e
    have hl : (lineT b).length < b.length := by
      rcases Nat.lt_or_ge (lineT b).length b.length with q | q
      · exact q
      · rw [List.drop_eq_nil_of_le q] at h2; cases h2
    unfold lineP
    rw [lineT_app c hl, List.drop_append_of_le_length (by omega), endP_grows.bad _ c h2]
    rfl
theorem bulkP_grows : Grows bulkP := by
  have hg := numP_grows (lo := -1) (hi := 4096) (by decide) (by decide)
  refine ⟨fun b x r c e => ?_, fun b c e => ?_⟩
  · unfold bulkP at e ⊢
    cases hn : numP (-1) 4096 b with
    | short => rw [hn] at e; cases e
    | wrong => rw [hn] at e; cases e
    | ok n s =>
      rw [hn] at e
      rw [hg.ok b n s c hn]
      simp only at e ⊢
      split at e
      · rename_i h; cases e; rw [if_pos h]
      · rename_i h
        rw [if_neg h]
        split at e
        · cases e
        · rename_i h3
          rw [if_neg (by simp; omega)]
          obtain ⟨u, h4, rfl⟩ := map_ok e
          cases u
          rw [List.take_append_of_le_length (by omega), List.drop_append_of_le_length (by omega), endP_grows.ok _ _ _ c h4]
          rfl
  · unfold bulkP at e ⊢
    cases hn : numP (-1) 4096 b with
    | short => rw [hn] at e; cases e
    | wrong => rw [hg.bad b c hn]
    | ok n s =>
      rw [hn] at e
      rw [hg.ok b n s c hn]
      simp only at e ⊢
      split at e
      · cases e
      · rename_i h
        rw [if_neg h]
        split at e
        · cases e
        · rename_i h3
          rw [if_neg (by simp; omega), List.drop_append_of_le_length (by omega), endP_grows.bad _ c (map_bad e)]
          rfl
theorem listP_grows {α : Type} {f : List Nat → St α} (hf : Grows f) : ∀ n, Grows (listP f n)
  | 0 => ⟨fun b x r c e => by unfold listP at e ⊢; cases e; rfl, fun b c e => by unfold listP at e; cases e⟩
  | n + 1 => by
    have ih := listP_grows hf n
    refine ⟨fun b x r c e => ?_, fun b c e => ?_⟩
    · unfold listP at e ⊢
      cases hb : f b with
      | short => rw [hb] at e; cases e
      | wrong => rw [hb] at e; cases e
      | ok y s =>
        rw [hb] at e
        rw [hf.ok b y s c hb]
        simp only at e ⊢
        obtain ⟨z, h1, rfl⟩ := map_ok e
        rw [ih.ok _ _ _ c h1]
        rfl
    · unfold listP at e ⊢
      cases hb : f b with
      | short => rw [hb] at e; cases e
      | wrong => rw [hf.bad b c hb]
      | ok y s =>
        rw [hb] at e
        rw [hf.ok b y s c hb]
        simp only at e ⊢
        rw [ih.bad _ c (map_bad e)]
        rfl
/-- a number that was read, as it stands there -/
theorem numP_text {lo hi : Int} {b r : List Nat} {n : Int} (h : numP lo hi b = .ok n r) : Larder.spellI n ++ [13, 10] ++ r = b ∧ lo ≤ n ∧ n ≤ hi ∧ -9223372036854775808 ≤ n ∧ n ≤ 9223372036854775807 := by
  unfold numP at h
  cases hc : crAt b with
  | none => rw [hc] at h; simp only at h; split at h <;> cases h
  | some i =>
    rw [hc] at h
    simp only at h
    cases hn : numV lo hi (b.take i) with
    | none => rw [hn] at h; cases h
    | some m =>
      rw [hn] at h
      obtain ⟨u, h2, rfl⟩ := map_ok h
      cases u
      obtain ⟨e0, e1, e2, e3⟩ := numV_some hn
      obtain ⟨s1, s2, s3, -⟩ := Larder.int_back _ e0
      rw [e1] at s1 s2 s3
      refine ⟨?_, e2, e3, s2, s3⟩
      rw [s1, List.append_assoc]
      show b.take i ++ (13 :: 10 :: r) = b
      rw [← endP_ok h2, List.take_append_drop]
theorem lineP_text {b r t : List Nat} (h : lineP b = .ok t r) : t ++ [13, 10] ++ r = b ∧ t.length ≤ 1024 ∧ t.any (fun c => c == 13 || c == 10) = false := by
  unfold lineP at h
  obtain ⟨u, h2, rfl⟩ := map_ok h
  cases u
  have hp : lineT b = b.take (lineT b).length := by
    obtain ⟨s, hs⟩ := List.takeWhile_prefix (fun c => !(c == 13 || c == 10)) (l := b.take 1024)
    have h3 : lineT b ++ s = b.take 1024 := hs
    have h4 : b = lineT b ++ (s ++ b.drop 1024) := by rw [← List.append_assoc, h3, List.take_append_drop]
    have h5 : b.take (lineT b).length = (lineT b ++ (s ++ b.drop 1024)).take (lineT b).length := congrArg _ h4
    rw [h5, List.take_left]
  refine ⟨?_, (lineT_len b).1, ?_⟩
  · rw [List.append_assoc]
    show lineT b ++ (13 :: 10 :: r) = b
    rw [← endP_ok h2]
    conv => lhs; lhs; rw [hp]
    exact List.take_append_drop _ _
  · rw [List.any_eq_false]
    intro c hc
    have := List.all_takeWhile (p := fun c => !(c == 13 || c == 10)) (l := b.take 1024)
    rw [List.all_eq_true] at this
    have := this c hc
    simpa using this
theorem bulkP_none {b r : List Nat} (h : bulkP b = .ok none r) : Larder.spellI (-1) ++ [13, 10] ++ r = b := by
  unfold bulkP at h
  cases hn : numP (-1) 4096 b with
  | short => rw [hn] at h; cases h
  | wrong => rw [hn] at h; cases h
  | ok n s =>
    rw [hn] at h
    simp only at h
    split at h
    · rename_i e
      subst e
      cases h
      exact (numP_text hn).1
    · split at h
      · cases h
      · obtain ⟨u, h2, e⟩ := map_ok h
        cases e
theorem bulkP_some {b r t : List Nat} (h : bulkP b = .ok (some t) r) : Larder.spellI (t.length : Nat) ++ [13, 10] ++ t ++ [13, 10] ++ r = b ∧ t.length ≤ 4096 := by
  unfold bulkP at h
  cases hn : numP (-1) 4096 b with
  | short => rw [hn] at h; cases h
  | wrong => rw [hn] at h; cases h
  | ok n s =>
    rw [hn] at h
    obtain ⟨q1, q2, q3, -⟩ := numP_text hn
    simp only at h
    split at h
    · cases h
    · rename_i e
      split at h
      · cases h
      · rename_i hl
        obtain ⟨u, h2, e2⟩ := map_ok h
        cases u
        cases e2
        have hlen : (s.take n.toNat).length = n.toNat := by rw [List.length_take]; omega
        rw [hlen]
        have hnn : ((n.toNat : Nat) : Int) = n := Int.toNat_of_nonneg (by omega)
        refine ⟨?_, by omega⟩
        rw [hnn]
        conv => rhs; rw [← q1]
        simp only [List.append_assoc]
        congr 2
        show s.take n.toNat ++ (13 :: 10 :: r) = s
        rw [← endP_ok h2, List.take_append_drop]
theorem listP_text {α : Type} {f : List Nat → St α} {E : α → List Nat} (hf : ∀ b x r, f b = .ok x r → E x ++ r = b) : ∀ (n : Nat) (b : List Nat) (l : List α) (r : List Nat), listP f n b = .ok l r → (l.map E).flatten ++ r = b ∧ l.length = n
  | 0, b, l, r, h => by unfold listP at h; cases h; exact ⟨rfl, rfl⟩
  | n + 1, b, l, r, h => by
    unfold listP at h
    cases hb : f b with
    | short => rw [hb] at h; cases h
    | wrong => rw [hb] at h; cases h
    | ok y s =>
      rw [hb] at h
      simp only at h
      obtain ⟨z, h1, rfl⟩ := map_ok h
      obtain ⟨q1, q2⟩ := listP_text hf n s z r h1
      refine ⟨?_, by simp [q2]⟩
      rw [List.map_cons, List.flatten_cons, List.append_assoc, q1, hf _ _ _ hb]
theorem listP_all {α : Type} {f : List Nat → St α} {Q : α → Prop} (hf : ∀ b x r, f b = .ok x r → Q x) : ∀ (n : Nat) (b : List Nat) (l : List α) (r : List Nat), listP f n b = .ok l r → ∀ x ∈ l, Q x
  | 0, b, l, r, h => by unfold listP at h; cases h; intro x hx; cases hx
  | n + 1, b, l, r, h => by
    unfold listP at h
    cases hb : f b with
    | short => rw [hb] at h; cases h
    | wrong => rw [hb] at h; cases h
    | ok y s =>
      rw [hb] at h
      simp only at h
      obtain ⟨z, h1, rfl⟩ := map_ok h
      intro x hx
      rcases List.mem_cons.1 hx with rfl | hx
      · exact hf _ _ _ hb
      · exact listP_all hf n s z r h1 x hx
end Larder8
