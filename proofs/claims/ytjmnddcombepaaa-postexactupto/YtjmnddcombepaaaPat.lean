/- Patterns: how they are read, what they fit. -/
import Derived.Test.YtjmnddcombepaaaCls
namespace Larder

/-- the byte that stands at i, or the one behind a backslash there, and where the next stands -/
def byteAt (p : List Nat) (i : Nat) : Nat × Nat := if p.getD i 0 = 92 ∧ i + 1 < p.length then (p.getD (i + 1) 0, i + 2) else (p.getD i 0, i + 1)
/-- the member that begins at i: its two ends, where the next begins -/
def memAt (p : List Nat) (i : Nat) : Nat × Nat × Nat :=
  if (byteAt p i).2 + 1 < p.length ∧ p.getD (byteAt p i).2 0 = 45 ∧ p.getD ((byteAt p i).2 + 1) 0 ≠ 93
  then ((byteAt p i).1, (byteAt p ((byteAt p i).2 + 1)).1, (byteAt p ((byteAt p i).2 + 1)).2)
  else ((byteAt p i).1, (byteAt p i).1, (byteAt p i).2)
/-- the members from i on, n at most -/
def memsK (p : List Nat) : Nat → Nat → (Nat → Bool) → (Nat → Bool) × Nat
  | 0, i, S => (S, i)
  | n + 1, i, S => if i < p.length ∧ p.getD i 0 ≠ 93 then memsK p n (memAt p i).2.2 (fun c => S c || between (memAt p i).1 (memAt p i).2.1 c) else (S, i)
/-- a caret there? -/
def caret (p : List Nat) (i : Nat) : Bool := decide (i < p.length ∧ p.getD i 0 = 94)
/-- the class whose first byte behind the bracket is i -/
def clsAt (p : List Nat) (i : Nat) : (Nat → Bool) × Nat :=
  if caret p i then (fun c => !(memsK p p.length (i + 1) (fun _ => false)).1 c, min ((memsK p p.length (i + 1) (fun _ => false)).2 + 1) p.length)
  else ((memsK p p.length i (fun _ => false)).1, min ((memsK p p.length i (fun _ => false)).2 + 1) p.length)
/-- the piece that begins at i: a star, or which bytes fit -/
def pieceAt (p : List Nat) (i : Nat) : Option (Nat → Bool) × Nat :=
  if p.getD i 0 = 42 then (none, i + 1)
  else if p.getD i 0 = 91 then (some (clsAt p (i + 1)).1, (clsAt p (i + 1)).2)
  else if p.getD i 0 = 63 then (some (fun _ => true), i + 1)
  else (some (between (byteAt p i).1 (byteAt p i).1), (byteAt p i).2)
def parseK (p : List Nat) : Nat → Nat → List (Option (Nat → Bool))
  | 0, _ => []
  | n + 1, i => if i < p.length then (pieceAt p i).1 :: parseK p n (pieceAt p i).2 else []
def parse (p : List Nat) : List (Option (Nat → Bool)) := parseK p p.length 0

theorem byteAt_prog (p : List Nat) (i : Nat) (h : i < p.length) : i < (byteAt p i).2 ∧ (byteAt p i).2 ≤ p.length := by
  unfold byteAt; split <;> simp only [] <;> omega
theorem byteAt_small (p : List Nat) (i : Nat) (h : ∀ i, p.getD i 0 < 256) : (byteAt p i).1 < 256 := by
  unfold byteAt; split <;> exact h _
theorem memAt_prog (p : List Nat) (i : Nat) (h : i < p.length) : i < (memAt p i).2.2 ∧ (memAt p i).2.2 ≤ p.length := by
  have h1 := byteAt_prog p i h
  unfold memAt
  split
  · rename_i h2
    have h3 := byteAt_prog p ((byteAt p i).2 + 1) h2.1
    simp only []; omega
  · exact h1
theorem memAt_small (p : List Nat) (i : Nat) (h : ∀ i, p.getD i 0 < 256) : (memAt p i).1 < 256 ∧ (memAt p i).2.1 < 256 := by
  unfold memAt; split <;> exact ⟨byteAt_small p _ h, byteAt_small p _ h⟩
theorem memsK_done (p : List Nat) (n i : Nat) (S : Nat → Bool) (h : ¬ (i < p.length ∧ p.getD i 0 ≠ 93)) : memsK p n i S = (S, i) := by
  cases n with
  | zero => rfl
  | succ n => rw [memsK, if_neg h]
theorem memsK_step (p : List Nat) (n i : Nat) (S : Nat → Bool) (h1 : i < p.length) (h2 : p.getD i 0 ≠ 93) : memsK p (n + 1) i S = memsK p n (memAt p i).2.2 (fun c => S c || between (memAt p i).1 (memAt p i).2.1 c) := by
  rw [memsK, if_pos ⟨h1, h2⟩]
theorem memsK_prog (p : List Nat) : ∀ (n i : Nat) (S : Nat → Bool), i ≤ p.length → i ≤ (memsK p n i S).2 ∧ (memsK p n i S).2 ≤ p.length
  | 0, i, S, h => ⟨Nat.le_refl _, h⟩
  | n + 1, i, S, h => by
    by_cases hc : i < p.length ∧ p.getD i 0 ≠ 93
    · rw [memsK, if_pos hc]
      have h1 := memAt_prog p i hc.1
      have h2 := memsK_prog p n (memAt p i).2.2 (fun c => S c || between (memAt p i).1 (memAt p i).2.1 c) h1.2
      omega
    · rw [memsK, if_neg hc]; exact ⟨Nat.le_refl _, h⟩
theorem clsAt_prog (p : List Nat) (i : Nat) (h : i ≤ p.length) : i ≤ (clsAt p i).2 ∧ (clsAt p i).2 ≤ p.length := by
  unfold clsAt
  split
  · rename_i hc
    have hc := of_decide_eq_true hc
    have h1 := memsK_prog p p.length (i + 1) (fun _ => false) hc.1
    simp only []; omega
  · have h1 := memsK_prog p p.length i (fun _ => false) h
    simp only []; omega
theorem pieceAt_prog (p : List Nat) (i : Nat) (h : i < p.length) : i < (pieceAt p i).2 ∧ (pieceAt p i).2 ≤ p.length := by
  unfold pieceAt
  split
  · simp only []; omega
  split
  · have := clsAt_prog p (i + 1) (by omega); simp only []; omega
  split
  · simp only []; omega
  · exact byteAt_prog p i h
theorem parseK_done (p : List Nat) (n i : Nat) (h : ¬ i < p.length) : parseK p n i = [] := by
  cases n with
  | zero => rfl
  | succ n => rw [parseK, if_neg h]
theorem parseK_step (p : List Nat) (n i : Nat) (h : i < p.length) : parseK p (n + 1) i = (pieceAt p i).1 :: parseK p n (pieceAt p i).2 := by
  rw [parseK, if_pos h]
theorem parseK_length (p : List Nat) : ∀ n i, (parseK p n i).length ≤ n
  | 0, i => Nat.le_refl _
  | n + 1, i => by
    by_cases h : i < p.length
    · rw [parseK_step p n i h, List.length_cons]; have := parseK_length p n (pieceAt p i).2; omega
    · rw [parseK_done p _ i h]; simp

/-- can a text be cut so that each piece fits its part? -/
def Meets : List (Option (Nat → Bool)) → List Nat → Prop
  | [], t => t = []
  | none :: r, t => ∃ u v, t = u ++ v ∧ Meets r v
  | some f :: r, t => ∃ c v, t = c :: v ∧ f c = true ∧ Meets r v

theorem meets_append : ∀ (l m : List (Option (Nat → Bool))) (t : List Nat), Meets (l ++ m) t ↔ ∃ u v, t = u ++ v ∧ Meets l u ∧ Meets m v
  | [], m, t => ⟨fun h => ⟨[], t, rfl, rfl, h⟩, fun ⟨u, v, e, h1, h2⟩ => by
      have h1 : u = [] := h1
      subst h1; subst e; exact h2⟩
  | none :: l, m, t => by
    constructor
    · rintro ⟨u, v, rfl, h⟩
      obtain ⟨a, b, rfl, h1, h2⟩ := (meets_append l m v).1 h
      exact ⟨u ++ a, b, by simp, ⟨u, a, rfl, h1⟩, h2⟩
    · rintro ⟨_, b, rfl, ⟨u, a, rfl, h1⟩, h2⟩
      exact ⟨u, a ++ b, by simp, (meets_append l m _).2 ⟨a, b, rfl, h1, h2⟩⟩
  | some f :: l, m, t => by
    constructor
    · rintro ⟨c, v, rfl, hf, h⟩
      obtain ⟨a, b, rfl, h1, h2⟩ := (meets_append l m v).1 h
      exact ⟨c :: a, b, by simp, ⟨c, a, rfl, hf, h1⟩, h2⟩
    · rintro ⟨_, b, rfl, ⟨c, a, rfl, hf, h1⟩, h2⟩
      exact ⟨c, a ++ b, by simp, hf, (meets_append l m _).2 ⟨a, b, rfl, h1, h2⟩⟩

theorem star_here {r : List (Option (Nat → Bool))} {t : List Nat} (h : Meets r t) : Meets (none :: r) t := ⟨[], t, rfl, h⟩
theorem star_cons (r : List (Option (Nat → Bool))) (c : Nat) (t : List Nat) : Meets (none :: r) (c :: t) ↔ Meets r (c :: t) ∨ Meets (none :: r) t := by
  constructor
  · rintro ⟨u, v, e, h⟩
    cases u with
    | nil => left; simpa [e] using h
    | cons d u =>
      right
      simp only [List.cons_append, List.cons.injEq] at e
      exact ⟨u, v, e.2, h⟩
  · rintro (h | ⟨u, v, rfl, h⟩)
    · exact star_here h
    · exact ⟨c :: u, v, rfl, h⟩
theorem star_drop {r : List (Option (Nat → Bool))} {t : List Nat} (k : Nat) (h : Meets (none :: r) (t.drop k)) : Meets (none :: r) t := by
  obtain ⟨u, v, e, h⟩ := h
  exact ⟨t.take k ++ u, v, by rw [List.append_assoc, ← e, List.take_append_drop], h⟩
theorem star_back {r : List (Option (Nat → Bool))} {t : List Nat} {k q : Nat} (hk : q ≤ k) (h : Meets (none :: r) (t.drop k)) : Meets (none :: r) (t.drop q) := by
  refine star_drop (k - q) ?_
  rw [List.drop_drop]
  have : q + (k - q) = k := by omega
  rw [this]; exact h

theorem singles_split : ∀ (k : Nat) (m : List (Option (Nat → Bool))) (u : List Nat), (∀ j, j < k → ∃ f, m[j]? = some (some f)) → Meets m u →
    k ≤ u.length ∧ Meets (m.drop k) (u.drop k) ∧ ∀ j f, j < k → m[j]? = some (some f) → f (u.getD j 0) = true
  | 0, m, u, _, h => ⟨Nat.zero_le _, h, fun j f hj => absurd hj (Nat.not_lt_zero _)⟩
  | k + 1, [], u, hs, h => by obtain ⟨f, hf⟩ := hs 0 (by omega); simp at hf
  | k + 1, none :: m, u, hs, h => by obtain ⟨f, hf⟩ := hs 0 (by omega); simp at hf
  | k + 1, some g :: m, u, hs, h => by
    obtain ⟨c, v, rfl, hg, hv⟩ := h
    obtain ⟨h1, h2, h3⟩ := singles_split k m v (fun j hj => by
      obtain ⟨f, hf⟩ := hs (j + 1) (by omega)
      exact ⟨f, by simpa using hf⟩) hv
    refine ⟨by simp; omega, by simpa using h2, ?_⟩
    intro j f hj hf
    cases j with
    | zero =>
      simp at hf
      subst hf
      simpa using hg
    | succ j => simpa using h3 j f (by omega) (by simpa using hf)
theorem singles_join : ∀ (k : Nat) (m : List (Option (Nat → Bool))) (u : List Nat), (∀ j, j < k → ∃ f, m[j]? = some (some f) ∧ f (u.getD j 0) = true) → k ≤ u.length → Meets (m.drop k) (u.drop k) → Meets m u
  | 0, m, u, _, _, h => h
  | k + 1, [], u, hs, _, h => by obtain ⟨f, hf, _⟩ := hs 0 (by omega); simp at hf
  | k + 1, none :: m, u, hs, _, h => by obtain ⟨f, hf, _⟩ := hs 0 (by omega); simp at hf
  | k + 1, some g :: m, u, hs, hk, h => by
    cases u with
    | nil => simp at hk
    | cons c v =>
      obtain ⟨f, hf, hv⟩ := hs 0 (by omega)
      simp at hf
      subst hf
      refine ⟨c, v, rfl, by simpa using hv, singles_join k m v (fun j hj => ?_) (by simp at hk; omega) (by simpa using h)⟩
      obtain ⟨f, hf, hv⟩ := hs (j + 1) (by omega)
      exact ⟨f, by simpa using hf, by simpa using hv⟩

/-- what is still to be asked, with the star ahead of piece b ending at s -/
def Tail (l : List (Option (Nat → Bool))) (t : List Nat) (b s : Nat) : Prop := (b = 0 ∧ Meets l t) ∨ (0 < b ∧ Meets (none :: l.drop b) (t.drop s))
def Gst (l : List (Option (Nat → Bool))) (t : List Nat) (b s : Nat) : Prop := (b = 0 → s = 0) ∧ b ≤ l.length ∧ s ≤ t.length ∧ (Meets l t ↔ Tail l t b s)
/-- the pieces b to p lie at s to q -/
def Runs (l : List (Option (Nat → Bool))) (t : List Nat) (b s p q : Nat) : Prop := b ≤ p ∧ p ≤ l.length ∧ q = s + (p - b) ∧ q ≤ t.length ∧ ∀ j, j < p - b → ∃ f, (l.drop b)[j]? = some (some f) ∧ f ((t.drop s).getD j 0) = true

theorem getD_drop (t : List Nat) (s j : Nat) : (t.drop s).getD j 0 = t.getD (s + j) 0 := by
  rw [List.getD_eq_getElem?_getD, List.getElem?_drop, List.getD_eq_getElem?_getD]
theorem Gst.start (l : List (Option (Nat → Bool))) (t : List Nat) : Gst l t 0 0 := ⟨fun _ => rfl, Nat.zero_le _, Nat.zero_le _, ⟨fun h => .inl ⟨rfl, h⟩, fun h => by
  rcases h with h | h
  · exact h.2
  · exact absurd h.1 (Nat.lt_irrefl _)⟩⟩
theorem Runs.start {l : List (Option (Nat → Bool))} {t : List Nat} {b s : Nat} (h : Gst l t b s) : Runs l t b s b s :=
  ⟨Nat.le_refl _, h.2.1, by omega, h.2.2.1, fun j hj => by omega⟩
theorem Runs.one {l : List (Option (Nat → Bool))} {t : List Nat} {b s p q : Nat} (h : Runs l t b s p q) {f : Nat → Bool} (hp : l[p]? = some (some f)) (hq : q < t.length) (hf : f (t.getD q 0) = true) : Runs l t b s (p + 1) (q + 1) := by
  obtain ⟨h1, h2, h3, h4, h5⟩ := h
  have hpl : p < l.length := (List.getElem?_eq_some_iff.1 hp).1
  refine ⟨by omega, by omega, by omega, by omega, fun j hj => ?_⟩
  by_cases e : j < p - b
  · exact h5 j e
  · have ej : b + j = p := by omega
    have eq : s + j = q := by omega
    exact ⟨f, by rw [List.getElem?_drop, ej]; exact hp, by rw [getD_drop, eq]; exact hf⟩
theorem Runs.short {l : List (Option (Nat → Bool))} {t : List Nat} {b s p q : Nat} (hg : Gst l t b s) (h : Runs l t b s p q) {f : Nat → Bool} (hp : l[p]? = some (some f)) (hq : q = t.length) : ¬ Meets l t := by
  obtain ⟨h1, h2, h3, h4, h5⟩ := h
  have hs : ∀ j, j < p - b + 1 → ∃ f, (l.drop b)[j]? = some (some f) := fun j hj => by
    by_cases e : j < p - b
    · obtain ⟨f, hf, _⟩ := h5 j e; exact ⟨f, hf⟩
    · have ej : b + j = p := by omega
      exact ⟨f, by rw [List.getElem?_drop, ej]; exact hp⟩
  intro hm
  rcases hg.2.2.2.1 hm with ⟨hb, hm⟩ | ⟨hb, u, v, e, hm⟩
  · subst hb
    have := hg.1 rfl
    have := (singles_split _ (l.drop 0) t hs hm).1
    omega
  · have h6 := (singles_split _ _ v hs hm).1
    have h7 := congrArg List.length e
    simp at h7
    omega
theorem Runs.star {l : List (Option (Nat → Bool))} {t : List Nat} {b s p q : Nat} (hg : Gst l t b s) (h : Runs l t b s p q) (hp : l[p]? = some none) : Gst l t (p + 1) q := by
  obtain ⟨h1, h2, h3, h4, h5⟩ := h
  have hpl : p < l.length := (List.getElem?_eq_some_iff.1 hp).1
  have hd : (l.drop b).drop (p - b) = none :: l.drop (p + 1) := by
    rw [List.drop_drop, show b + (p - b) = p by omega, List.drop_eq_getElem_cons hpl]
    congr 1
    have := (List.getElem?_eq_some_iff.1 hp).2
    exact this
  have hs : ∀ j, j < p - b → ∃ f, (l.drop b)[j]? = some (some f) := fun j hj => by obtain ⟨f, hf, _⟩ := h5 j hj; exact ⟨f, hf⟩
  refine ⟨fun h => by omega, by omega, h4, ?_⟩
  rw [hg.2.2.2]
  constructor
  · rintro (⟨hb, hm⟩ | ⟨hb, u, v, e, hm⟩)
    · subst hb
      have h0 := hg.1 rfl
      have h6 := (singles_split _ (l.drop 0) t hs hm).2.1
      rw [hd] at h6
      right
      refine ⟨by omega, ?_⟩
      have : q = p - 0 := by omega
      rw [this]; exact h6
    · right
      refine ⟨by omega, ?_⟩
      have h6 := (singles_split _ _ v hs hm).2.1
      rw [hd] at h6
      have ev : v = t.drop (s + u.length) := by
        have := congrArg (List.drop u.length) e
        rw [List.drop_drop] at this
        simpa using this.symm
      rw [ev, List.drop_drop] at h6
      exact star_back (by omega) h6
  · rintro (⟨hb, hm⟩ | ⟨hb, hm⟩)
    · omega
    · have hj := singles_join (p - b) (l.drop b) (t.drop s) h5 (by simp; omega) (by rw [hd, List.drop_drop, ← h3]; exact hm)
      by_cases hb0 : b = 0
      · subst hb0
        have h0 := hg.1 rfl
        subst h0
        exact .inl ⟨rfl, hj⟩
      · exact .inr ⟨by omega, star_here hj⟩
theorem next_start {l : List (Option (Nat → Bool))} {t : List Nat} {b s : Nat} (hg : Gst l t b s) (hs : s < t.length) (hn : ¬ Meets (l.drop b) (t.drop s)) : (b = 0 → ¬ Meets l t) ∧ (0 < b → Gst l t b (s + 1)) := by
  constructor
  · intro hb
    subst hb
    have h0 := hg.1 rfl
    subst h0
    exact hn
  · intro hb
    refine ⟨fun h => by omega, hg.2.1, by omega, ?_⟩
    rw [hg.2.2.2]
    have hd : t.drop s = t[s] :: t.drop (s + 1) := List.drop_eq_getElem_cons hs
    constructor
    · rintro (⟨h, _⟩ | ⟨_, hm⟩)
      · omega
      · rw [hd, star_cons] at hm
        rcases hm with hm | hm
        · rw [← hd] at hm; exact absurd hm hn
        · exact .inr ⟨hb, hm⟩
    · rintro (⟨h, _⟩ | ⟨_, hm⟩)
      · omega
      · exact .inr ⟨hb, star_back (by omega) hm⟩
theorem Runs.miss {l : List (Option (Nat → Bool))} {t : List Nat} {b s p q : Nat} (hg : Gst l t b s) (h : Runs l t b s p q) {f : Nat → Bool} (hp : l[p]? = some (some f)) (hq : q < t.length) (hf : f (t.getD q 0) = false) : (b = 0 → ¬ Meets l t) ∧ (0 < b → Gst l t b (s + 1)) := by
  obtain ⟨h1, h2, h3, h4, h5⟩ := h
  refine next_start hg (by omega) (fun hm => ?_)
  have hs : ∀ j, j < p - b + 1 → ∃ f, (l.drop b)[j]? = some (some f) := fun j hj => by
    by_cases e : j < p - b
    · obtain ⟨f, hf, _⟩ := h5 j e; exact ⟨f, hf⟩
    · have ej : b + j = p := by omega
      exact ⟨f, by rw [List.getElem?_drop, ej]; exact hp⟩
  have h6 := (singles_split _ _ _ hs hm).2.2 (p - b) f (by omega) (by rw [List.getElem?_drop, show b + (p - b) = p by omega]; exact hp)
  rw [getD_drop, ← h3, hf] at h6
  cases h6
theorem Runs.rest {l : List (Option (Nat → Bool))} {t : List Nat} {b s q : Nat} (hg : Gst l t b s) (h : Runs l t b s l.length q) (hq : q < t.length) : (b = 0 → ¬ Meets l t) ∧ (0 < b → Gst l t b (s + 1)) := by
  obtain ⟨h1, h2, h3, h4, h5⟩ := h
  refine next_start hg (by omega) (fun hm => ?_)
  have hs : ∀ j, j < l.length - b → ∃ f, (l.drop b)[j]? = some (some f) := fun j hj => by obtain ⟨f, hf, _⟩ := h5 j hj; exact ⟨f, hf⟩
  have h6 := (singles_split _ _ _ hs hm).2.1
  rw [List.drop_drop, List.drop_eq_nil_of_le (by omega)] at h6
  have h7 : (t.drop s).drop (l.length - b) = [] := h6
  have h8 := congrArg List.length h7
  simp at h8
  omega
theorem Runs.whole {l : List (Option (Nat → Bool))} {t : List Nat} {b s : Nat} (hg : Gst l t b s) (h : Runs l t b s l.length t.length) : Meets l t := by
  obtain ⟨h1, h2, h3, h4, h5⟩ := h
  have hj := singles_join (l.length - b) (l.drop b) (t.drop s) h5 (by simp; omega) (by
    rw [List.drop_drop, List.drop_eq_nil_of_le (by omega), List.drop_drop, List.drop_eq_nil_of_le (by omega)]; rfl)
  refine hg.2.2.2.2 ?_
  by_cases hb0 : b = 0
  · subst hb0
    have h0 := hg.1 rfl
    subst h0
    exact .inl ⟨rfl, hj⟩
  · exact .inr ⟨by omega, star_here hj⟩

/-- a piece that fits no byte -/
theorem none_fits : ∀ (l : List (Option (Nat → Bool))) (t : List Nat) (f : Nat → Bool), some f ∈ l → (∀ c, c ∈ t → f c = false) → ¬ Meets l t
  | [], t, f, h, _ => by simp at h
  | none :: l, t, f, h, hf => by
    rintro ⟨u, v, rfl, hm⟩
    exact none_fits l v f (by simpa using h) (fun c hc => hf c (by simp [hc])) hm
  | some g :: l, t, f, h, hf => by
    rintro ⟨c, v, rfl, hg, hm⟩
    rcases List.mem_cons.1 h with e | h
    · cases e
      have := hf c (by simp)
      rw [hg] at this; cases this
    · exact none_fits l v f h (fun c hc => hf c (by simp [hc])) hm

/-- the pieces of the beginning, by one more -/
theorem meets_star_end (l : List (Option (Nat → Bool))) (t : List Nat) (j : Nat) (hj : j ≤ t.length) : Meets (l ++ [none]) (t.take j) ↔ Meets l (t.take j) ∨ (0 < j ∧ Meets (l ++ [none]) (t.take (j - 1))) := by
  have hn : ∀ v, Meets [none] v := fun v => ⟨v, [], by simp, rfl⟩
  constructor
  · intro h
    obtain ⟨u, v, e, h1, _⟩ := (meets_append _ _ _).1 h
    by_cases hv : v = []
    · left; rw [e, hv, List.append_nil]; exact h1
    · right
      have hl := congrArg List.length e
      have hvl : 0 < v.length := List.length_pos_iff.2 hv
      simp [List.length_take, Nat.min_eq_left hj] at hl
      refine ⟨by omega, (meets_append _ _ _).2 ⟨u, v.take (v.length - 1), ?_, h1, hn _⟩⟩
      have e2 := congrArg (List.take (j - 1)) e
      rw [List.take_take, Nat.min_eq_left (by omega)] at e2
      rw [e2, List.take_append, List.take_of_length_le (by omega)]
      congr 2
      omega
  · rintro (h | ⟨h0, h⟩)
    · exact (meets_append _ _ _).2 ⟨_, [], by simp, h, hn _⟩
    · obtain ⟨u, v, e, h1, _⟩ := (meets_append _ _ _).1 h
      refine (meets_append _ _ _).2 ⟨u, v ++ [t[j - 1]'(by omega)], ?_, h1, hn _⟩
      rw [← List.append_assoc, ← e]
      have : t.take (j - 1 + 1) = t.take (j - 1) ++ [t[j - 1]'(by omega)] := (List.take_append_getElem (by omega)).symm
      rw [← this]
      congr 1
      omega
theorem meets_one_end (l : List (Option (Nat → Bool))) (f : Nat → Bool) (t : List Nat) (j : Nat) (hj : j ≤ t.length) : Meets (l ++ [some f]) (t.take j) ↔ 0 < j ∧ Meets l (t.take (j - 1)) ∧ f (t.getD (j - 1) 0) = true := by
  constructor
  · intro h
    obtain ⟨u, v, e, h1, c, v2, rfl, hf, hv⟩ := (meets_append _ _ _).1 h
    have hv : v2 = [] := hv
    subst hv
    have hl := congrArg List.length e
    simp [List.length_take, Nat.min_eq_left hj] at hl
    have e2 := congrArg (List.take (j - 1)) e
    rw [List.take_take, Nat.min_eq_left (by omega), List.take_append, List.take_of_length_le (l := u) (by omega), show j - 1 - u.length = 0 by omega] at e2
    have e3 := congrArg (fun x => x.getD (j - 1) 0) e
    simp only [List.getD_eq_getElem?_getD] at e3
    rw [List.getElem?_take, if_pos (by omega), List.getElem?_append_right (by omega), show j - 1 - u.length = 0 by omega] at e3
    refine ⟨by omega, ?_, ?_⟩
    · rw [e2]; simpa using h1
    · rw [List.getD_eq_getElem?_getD, e3]; simpa using hf
  · rintro ⟨h0, h1, hf⟩
    refine (meets_append _ _ _).2 ⟨t.take (j - 1), [t.getD (j - 1) 0], ?_, h1, ⟨_, [], rfl, hf, rfl⟩⟩
    have : t.take (j - 1 + 1) = t.take (j - 1) ++ [t[j - 1]'(by omega)] := (List.take_append_getElem (by omega)).symm
    rw [List.getD_eq_getElem?_getD, List.getElem?_eq_getElem (show j - 1 < t.length by omega)]
    show _ = List.take (j - 1) t ++ [t[j - 1]]
    rw [← this]
    congr 1
    omega
end Larder
