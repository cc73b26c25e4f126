/- The table of the commands. -/
import Derived.Test.YtlbgmjllglaadaaRows
import Derived.Deep.QuietTactic
import Derived.BigQuiet
import Derived.WalkSmall
import Derived.Laws.AppendOwnNone
import Derived.Laws.OwnMore
import Derived.WalkKit
import Derived.WalkLawsBesides
import Derived.WalkSpells
import Derived.ProofKit
import Derived.OpenShut
import Derived.ShutString
import Derived.ChangeOld
import Derived.Below
import Derived.Laws.BytesArg
import Derived.Laws.BitsAllLaws
import Derived.Lib.LaidTab
import Derived.Great.BuildSlice
import Derived.Deep.WholeRow
import Derived.Deep.RegionHeld3
namespace Go.Proofs.Ytlbgmjllglaadaa
open Go.ChangeShapes Go.WideShapes Go.ChangeAt Go.RowKit
set_option linter.unusedVariables false
set_option maxRecDepth 20000

theorem hide {p : Prop} (h : p) : Hid p := h
theorem unhide {p : Prop} (h : Hid p) : p := h.out
theorem ret_bool {a b : Bool} (h : a = b) : Ending.returned (.bool a) = .returned (.bool b) := by rw [h]

/-- a command's row -/
structure Cm where
  n : List UInt8
  a : Int
  b : Bool
  f : Int
  l : Int
  s : Int
  q : Int
def Cm.row (c : Cm) : List Value := [.string ⟨c.n.toArray⟩, .int .i64 c.a, .bool c.b, .int .i64 c.f, .int .i64 c.l, .int .i64 c.s, .int .i64 c.q]
def tabC : List Cm := [⟨[90, 65, 68, 68], (-4), true, 1, 1, 1, 0⟩,
  ⟨[90, 67, 65, 82, 68], 2, false, 1, 1, 1, 0⟩,
  ⟨[90, 67, 79, 85, 78, 84], 4, false, 1, 1, 1, 0⟩,
  ⟨[90, 68, 73, 70, 70], (-3), false, 0, 0, 0, 1⟩,
  ⟨[90, 68, 73, 70, 70, 83, 84, 79, 82, 69], (-4), true, 1, 1, 1, 2⟩,
  ⟨[90, 73, 78, 67, 82, 66, 89], 4, true, 1, 1, 1, 0⟩,
  ⟨[90, 73, 78, 84, 69, 82], (-3), false, 0, 0, 0, 1⟩,
  ⟨[90, 73, 78, 84, 69, 82, 67, 65, 82, 68], (-3), false, 0, 0, 0, 1⟩,
  ⟨[90, 73, 78, 84, 69, 82, 83, 84, 79, 82, 69], (-4), true, 1, 1, 1, 2⟩,
  ⟨[90, 76, 69, 88, 67, 79, 85, 78, 84], 4, false, 1, 1, 1, 0⟩,
  ⟨[90, 77, 80, 79, 80], (-4), true, 0, 0, 0, 1⟩,
  ⟨[90, 77, 83, 67, 79, 82, 69], (-3), false, 1, 1, 1, 0⟩,
  ⟨[90, 80, 79, 80, 77, 65, 88], (-2), true, 1, 1, 1, 0⟩,
  ⟨[90, 80, 79, 80, 77, 73, 78], (-2), true, 1, 1, 1, 0⟩,
  ⟨[90, 82, 65, 78, 71, 69], (-4), false, 1, 1, 1, 0⟩,
  ⟨[90, 82, 65, 78, 71, 69, 66, 89, 76, 69, 88], (-4), false, 1, 1, 1, 0⟩,
  ⟨[90, 82, 65, 78, 71, 69, 66, 89, 83, 67, 79, 82, 69], (-4), false, 1, 1, 1, 0⟩,
  ⟨[90, 82, 65, 78, 71, 69, 83, 84, 79, 82, 69], (-5), true, 1, 2, 1, 0⟩,
  ⟨[90, 82, 65, 78, 75], (-3), false, 1, 1, 1, 0⟩,
  ⟨[90, 82, 69, 77], (-3), true, 1, 1, 1, 0⟩,
  ⟨[90, 82, 69, 77, 82, 65, 78, 71, 69, 66, 89, 76, 69, 88], 4, true, 1, 1, 1, 0⟩,
  ⟨[90, 82, 69, 77, 82, 65, 78, 71, 69, 66, 89, 82, 65, 78, 75], 4, true, 1, 1, 1, 0⟩,
  ⟨[90, 82, 69, 77, 82, 65, 78, 71, 69, 66, 89, 83, 67, 79, 82, 69], 4, true, 1, 1, 1, 0⟩,
  ⟨[90, 82, 69, 86, 82, 65, 78, 71, 69], (-4), false, 1, 1, 1, 0⟩,
  ⟨[90, 82, 69, 86, 82, 65, 78, 71, 69, 66, 89, 76, 69, 88], (-4), false, 1, 1, 1, 0⟩,
  ⟨[90, 82, 69, 86, 82, 65, 78, 71, 69, 66, 89, 83, 67, 79, 82, 69], (-4), false, 1, 1, 1, 0⟩,
  ⟨[90, 82, 69, 86, 82, 65, 78, 75], (-3), false, 1, 1, 1, 0⟩,
  ⟨[90, 83, 67, 65, 78], (-3), false, 1, 1, 1, 0⟩,
  ⟨[90, 83, 67, 79, 82, 69], 3, false, 1, 1, 1, 0⟩,
  ⟨[90, 85, 78, 73, 79, 78], (-3), false, 0, 0, 0, 1⟩,
  ⟨[90, 85, 78, 73, 79, 78, 83, 84, 79, 82, 69], (-4), true, 1, 1, 1, 2⟩]
def tabL : List Value := (tabC.map Cm.row).flatten
def tabA : Array Value := tabL.toArray
theorem tabC_len : tabC.length = 31 := rfl
theorem tabL_len : tabL.length = 217 := by decide
theorem tabA_size : tabA.size = 217 := by rw [show tabA.size = tabL.length from rfl]; exact tabL_len

theorem flat7 : ∀ (L : List (List Value)) (i j : Nat), (∀ r ∈ L, r.length = 7) → i < L.length → j < 7 → L.flatten[7 * i + j]? = (L.getD i [])[j]?
  | [], i, j, _, h, _ => absurd h (Nat.not_lt_zero _)
  | r :: L, 0, j, hr, _, hj => by
    have := hr r (List.mem_cons_self ..)
    rw [List.flatten_cons, List.getElem?_append_left (by omega), Nat.mul_zero, Nat.zero_add]; rfl
  | r :: L, i + 1, j, hr, h, hj => by
    have h8 := hr r (List.mem_cons_self ..)
    rw [List.flatten_cons, List.getElem?_append_right (by omega), h8, show 7 * (i + 1) + j - 7 = 7 * i + j by omega]
    exact flat7 L i j (fun x hx => hr x (List.mem_cons_of_mem _ hx)) (by simpa using h) hj
/-- the row of a place -/
theorem tab_at (i : Nat) (hi : i < 31) : ∃ c : Cm, tabC[i]? = some c ∧ ∀ j, j < 7 → tabA[7 * i + j]? = c.row[j]? := by
  have hl := tabC_len
  obtain ⟨c, hc⟩ : ∃ c, tabC[i]? = some c := ⟨_, List.getElem?_eq_getElem (by omega)⟩
  refine ⟨c, hc, fun j hj => ?_⟩
  show tabL.toArray[7 * i + j]? = _
  rw [List.getElem?_toArray]
  unfold tabL
  rw [flat7 _ i j (fun r hr => by obtain ⟨x, _, rfl⟩ := List.mem_map.1 hr; rfl) (by rw [List.length_map]; omega) hj, List.getD_eq_getElem?_getD, List.getElem?_map, hc]
  rfl

end Go.Proofs.Ytlbgmjllglaadaa
