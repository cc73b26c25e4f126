/- Three blocks; refused. -/
import Derived.Test.YtdgdnpgjbphgaaaSteps
namespace Go.Proofs.Ytdgdnpgjbphgaaa
open Go.ChangeShapes Go.WideShapes Go.ChangeAt Go.RowKit
set_option linter.unusedVariables false
set_option maxRecDepth 100000
set_option maxHeartbeats 2000000

/-- the blocks of memory that a block of words lies in -/
def own3 (P : Nat → Nat × Nat × Nat) (i : Nat) : List Nat := [(P i).1, (P i).2.1, (P i).2.2]
def all3 (P : Nat → Nat × Nat × Nat) : List Nat := own3 P 0 ++ own3 P 1 ++ own3 P 2
def Apart3 (P : Nat → Nat × Nat × Nat) : Prop := ∀ i j, i < 3 → j < 3 → i ≠ j → ∀ x ∈ own3 P i, x ∉ own3 P j
/-- three blocks -/
structure Three (w : World) (P : Nat → Nat × Nat × Nat) (S : Nat → List Nat × List Bool × Nat) : Prop where
  ar : ∀ i, i < 3 → Ar w (P i).1 (P i).2.1 (P i).2.2 (S i).1 (S i).2.1 (S i).2.2
  sound : ∀ i, i < 3 → Sound (S i).1 (S i).2.1 (S i).2.2
def upd (S : Nat → List Nat × List Bool × Nat) (x : Nat) (v : List Nat × List Bool × Nat) : Nat → List Nat × List Bool × Nat := fun i => if i = x then v else S i
theorem all3_mem (P : Nat → Nat × Nat × Nat) (i : Nat) (hi : i < 3) : ∀ x ∈ own3 P i, x ∈ all3 P := by
  intro x hx
  unfold all3
  match i, hi with
  | 0, _ => simp [hx]
  | 1, _ => simp [hx]
  | 2, _ => simp [hx]
theorem Three.below {w w' : World} {P : Nat → Nat × Nat × Nat} {S : Nat → List Nat × List Bool × Nat} (h : Three w P S) (hb : Below w.heap.size w w') : Three w' P S := ⟨fun i hi => (h.ar i hi).below hb, h.sound⟩
/-- what a call does to the three blocks -/
structure Effect (S S' : Nat → List Nat × List Bool × Nat) (no : Bool) (x y : Nat) (K A : Int) : Prop where
  same : ∀ i, i < 3 → (no = true ∨ (i ≠ x ∧ ¬ (K = 8 ∧ i = y))) → S' i = S i
  took : K = 8 → no = false → y ≠ x → Gone (S y).1 (S y).2.1 (S y).2.2 A (S' y).1 ∧ (S' y).2 = (S y).2
theorem three_step {w w' : World} {P : Nat → Nat × Nat × Nat} {S : Nat → List Nat × List Bool × Nat} (h : Three w P S) (hP : Apart3 P) {x y : Nat} (hx : x < 3) {K A : Int} (hK : K ≠ 8 ∨ y = x) {f : Nat} {ws' : List Nat} {hs' : List Bool} {us' : Nat} (hs : Step w w' (P x).1 (P x).2.1 (P x).2.2 (S x).1 (S x).2.1 (S x).2.2 f ws' hs' us') :
    Three w' P (upd S x (ws', hs', us')) ∧ But (all3 P) w w' ∧ Effect S (upd S x (ws', hs', us')) (!((f : Int) == 0)) x y K A := by
  refine ⟨⟨fun i hi => ?_, fun i hi => ?_⟩, hs.but.over (fun z hz => all3_mem P x hx z hz), ⟨fun i hi hc => ?_, fun h8 hno hyx => ?_⟩⟩
  · unfold upd
    by_cases e : i = x
    · rw [if_pos e]; subst e; exact hs.ar
    · rw [if_neg e]
      have ap := hP i x hi hx e
      exact (h.ar i hi).but hs.but (ap _ (by simp [own3])) (ap _ (by simp [own3])) (ap _ (by simp [own3]))
  · unfold upd
    by_cases e : i = x
    · rw [if_pos e]; exact hs.sound
    · rw [if_neg e]; exact h.sound i hi
  · unfold upd
    by_cases e : i = x
    · rw [if_pos e]
      rcases hc with hc | hc
      · have hf : f ≠ 0 := by
          intro h0
          subst h0
          cases hc
        obtain ⟨e1, e2, e3⟩ := hs.no hf
        subst e
        rw [e1, e2, e3]
      · exact absurd e hc.1
    · rw [if_neg e]
  · rcases hK with h | h
    · exact absurd h8 h
    · exact absurd h hyx
theorem three_take {w w' : World} {P : Nat → Nat × Nat × Nat} {S : Nat → List Nat × List Bool × Nat} (h : Three w P S) (hP : Apart3 P) {x y : Nat} (hx : x < 3) (hy : y < 3) (hxy : y ≠ x) {K A : Int} (hK : K = 8) {f : Nat} {wd' : List Nat} {hd' : List Bool} {ud' : Nat} {ws' : List Nat}
    (h1 : Ar w' (P x).1 (P x).2.1 (P x).2.2 wd' hd' ud') (h2 : Sound wd' hd' ud') (h3 : Ar w' (P y).1 (P y).2.1 (P y).2.2 ws' (S y).2.1 (S y).2.2) (h4 : Sound ws' (S y).2.1 (S y).2.2) (h5 : But [(P x).1, (P x).2.2, (P x).2.1, (P y).2.1] w w') (h6 : f ≠ 0 → wd' = (S x).1 ∧ hd' = (S x).2.1 ∧ ud' = (S x).2.2 ∧ ws' = (S y).1) (h7 : f = 0 → Gone (S y).1 (S y).2.1 (S y).2.2 A ws') :
    Three w' P (upd (upd S x (wd', hd', ud')) y (ws', (S y).2.1, (S y).2.2)) ∧ But (all3 P) w w' ∧ Effect S (upd (upd S x (wd', hd', ud')) y (ws', (S y).2.1, (S y).2.2)) (!((f : Int) == 0)) x y K A := by
  refine ⟨⟨fun i hi => ?_, fun i hi => ?_⟩, h5.over (fun z hz => ?_), ⟨fun i hi hc => ?_, fun h8 hno hyx => ?_⟩⟩
  · unfold upd
    by_cases e : i = y
    · rw [if_pos e]; subst e; exact h3
    · rw [if_neg e]
      by_cases e2 : i = x
      · rw [if_pos e2]; subst e2; exact h1
      · rw [if_neg e2]
        have ap := hP i x hi hx e2
        have ap2 := hP i y hi hy e
        have key : ∀ z ∈ own3 P i, z ∉ [(P x).1, (P x).2.2, (P x).2.1, (P y).2.1] := fun z hz hm => by
          have a1 := ap z hz
          have a2 := ap2 z hz
          simp [own3] at a1 a2 hm
          omega
        exact (h.ar i hi).but h5 (key _ (by simp [own3])) (key _ (by simp [own3])) (key _ (by simp [own3]))
  · unfold upd
    by_cases e : i = y
    · rw [if_pos e]; exact h4
    · rw [if_neg e]
      by_cases e2 : i = x
      · rw [if_pos e2]; exact h2
      · rw [if_neg e2]; exact h.sound i hi
  · have m1 := all3_mem P x hx z
    have m2 := all3_mem P y hy z
    simp at hz
    rcases hz with rfl | rfl | rfl | rfl
    · exact m1 (by simp [own3])
    · exact m1 (by simp [own3])
    · exact m1 (by simp [own3])
    · exact m2 (by simp [own3])
  · have hf : i ≠ x ∧ ¬ (K = 8 ∧ i = y) ∨ f ≠ 0 := by
      rcases hc with hc | hc
      · right; intro h0; subst h0; cases hc
      · exact .inl hc
    unfold upd
    rcases hf with hf | hf
    · rw [if_neg (fun e => hf.2 ⟨hK, e⟩), if_neg hf.1]
    · obtain ⟨e1, e2, e3, e4⟩ := h6 hf
      by_cases e : i = y
      · rw [if_pos e, e4]; subst e; rfl
      · rw [if_neg e]
        by_cases e' : i = x
        · rw [if_pos e', e1, e2, e3]; subst e'; rfl
        · rw [if_neg e']
  · have hf : f = 0 := by
      by_cases h0 : f = 0
      · exact h0
      · exfalso
        have : ((f : Int) == 0) = false := by rw [beq_eq_false_iff_ne]; omega
        rw [this] at hno; cases hno
    unfold upd
    rw [if_pos rfl]
    exact ⟨h7 hf, rfl⟩
theorem effect_none (S : Nat → List Nat × List Bool × Nat) (x y : Nat) (K A : Int) (hK : K ≠ 8) : Effect S S true x y K A := ⟨fun _ _ _ => rfl, fun h => absurd h hK⟩
def t3 (n : Int) : Nat := (n % 3).toNat
theorem t3_lt (n : Int) : t3 n < 3 := by unfold t3; omega
theorem three_nat (n : Int) (w : World) : Calls Try.prog 24 #[.int .i64 n] w fun e w' => e = .returned (.int .i64 (t3 n : Nat)) ∧ w' = w := by
  have h := three_any n w
  have e : ((t3 n : Nat) : Int) = n % 3 := by unfold t3; omega
  rw [e]; exact h
end Go.Proofs.Ytdgdnpgjbphgaaa
