/- Decode, in plain words. -/
import Derived.Test.YtecfgbjnjgjkoaaGreatDoorNumMath
namespace Larder8
set_option linter.unusedVariables false

/-- how a part stands: whole, with what is behind it; the beginning of one; none -/
inductive St (α : Type) where
  | ok (a : α) (r : List Nat)
  | short
  | wrong
def St.map {α β : Type} (f : α → β) : St α → St β
  | .ok a r => .ok (f a) r
  | .short => .short
  | .wrong => .wrong
/-- as the program tells it: 0, ErrWireShort, ErrWireReply -/
def St.err {α : Type} : St α → Int
  | .ok _ _ => 0
  | .short => 86
  | .wrong => 85
/-- a line's end -/
def endP : List Nat → St Unit
  | [] => .short
  | [c] => if c = 13 then .short else .wrong
  | c :: d :: r => if c = 13 ∧ d = 10 then .ok () r else .wrong
theorem endP_ok {b r : List Nat} (h : endP b = .ok () r) : b = 13 :: 10 :: r := by
  match b, h with
  | [], h => cases h
  | [c], h => simp only [endP] at h; split at h <;> cases h
  | c :: d :: r', h =>
    simp only [endP] at h
    split at h
    · rename_i hc
      cases h
      rw [hc.1, hc.2]
    · cases h
/-- where the first CR stands -/
def crAt : List Nat → Option Nat
  | [] => none
  | c :: r => if c = 13 then some 0 else (crAt r).map (· + 1)
theorem crAt_lt : ∀ (b : List Nat) (i : Nat), crAt b = some i → i < b.length ∧ b.getD i 0 = 13 ∧ ∀ j, j < i → b.getD j 0 ≠ 13
  | [], i, h => by cases h
  | c :: r, i, h => by
    unfold crAt at h
    split at h
    · rename_i hc
      cases h
      exact ⟨by simp, by simpa using hc, fun j hj => by omega⟩
    · rename_i hc
      cases h2 : crAt r with
      | none => rw [h2] at h; cases h
      | some k =>
        rw [h2] at h
        cases h
        obtain ⟨h3, h4, h5⟩ := crAt_lt r k h2
        refine ⟨by simp; omega, by simpa using h4, fun j hj => ?_⟩
        cases j with
        | zero => simpa using hc
        | succ j => have hj2 : j + 1 < k + 1 := hj; simpa using h5 j (by omega)
theorem crAt_none : ∀ (b : List Nat), crAt b = none → ∀ j, j < b.length → b.getD j 0 ≠ 13
  | [], h, j, hj => by simp at hj
  | c :: r, h, j, hj => by
    unfold crAt at h
    split at h
    · cases h
    · rename_i hc
      cases h2 : crAt r with
      | some k => rw [h2] at h; cases h
      | none =>
        cases j with
        | zero => simpa using hc
        | succ j => simpa using crAt_none r h2 j (by simpa using hj)
theorem crAt_is (b : List Nat) (i : Nat) (h1 : i < b.length) (h2 : b.getD i 0 = 13) (h3 : ∀ j, j < i → b.getD j 0 ≠ 13) : crAt b = some i := by
  cases h : crAt b with
  | none => exact absurd h2 (crAt_none b h i h1)
  | some k =>
    obtain ⟨a1, a2, a3⟩ := crAt_lt b k h
    rcases Nat.lt_trichotomy i k with q | q | q
    · exact absurd h2 (a3 i q)
    · rw [q]
    · exact absurd a2 (h3 k q)
theorem crAt_no (b : List Nat) (h : ∀ j, j < b.length → b.getD j 0 ≠ 13) : crAt b = none := by
  cases hc : crAt b with
  | none => rfl
  | some k =>
    obtain ⟨a1, a2, a3⟩ := crAt_lt b k hc
    exact absurd a2 (h k a1)
/-- a number from lo to hi in its one form -/
def numV (lo hi : Int) (t : List Nat) : Option Int := if (Larder.intRes t).2 = 0 ∧ lo ≤ (Larder.intRes t).1 ∧ (Larder.intRes t).1 ≤ hi then some (Larder.intRes t).1 else none
/-- the beginning of one -/
def begunP (lo hi : Int) (t : List Nat) : Bool := if t = [] then true else if t = [45] then decide (lo < 0) else (numV lo hi t).isSome
def numP (lo hi : Int) (b : List Nat) : St Int :=
  match crAt b with
  | none => if begunP lo hi b then .short else .wrong
  | some i => match numV lo hi (b.take i) with
    | none => .wrong
    | some n => (endP (b.drop i)).map (fun _ => n)
/-- the text of a line -/
def lineT (b : List Nat) : List Nat := (b.take 1024).takeWhile (fun c => !(c == 13 || c == 10))
def lineP (b : List Nat) : St (List Nat) := (endP (b.drop (lineT b).length)).map (fun _ => lineT b)
/-- a text of any bytes; none: the lack of one -/
def bulkP (b : List Nat) : St (Option (List Nat)) :=
  match numP (-1) 4096 b with
  | .short => .short
  | .wrong => .wrong
  | .ok n r => if n = -1 then .ok none r else if r.length < n.toNat then .short else (endP (r.drop n.toNat)).map (fun _ => some (r.take n.toNat))
/-- so many, one behind the other -/
def listP {α : Type} (f : List Nat → St α) : Nat → List Nat → St (List α)
  | 0, b => .ok [] b
  | n + 1, b => match f b with
    | .short => .short
    | .wrong => .wrong
    | .ok x r => (listP f n r).map (x :: ·)
end Larder8
