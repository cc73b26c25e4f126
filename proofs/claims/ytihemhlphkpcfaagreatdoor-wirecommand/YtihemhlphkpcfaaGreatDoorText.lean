/- word.Text and word.Digits. -/
import Derived.Test.YtihemhlphkpcfaaGreatDoorRows
import Derived.Test.YtihemhlphkpcfaaGreatDoorShelf
import Derived.Test.YtihemhlphkpcfaaGreatDoorSame
import Derived.Test.YtihemhlphkpcfaaGreatDoorTextMath
import Derived.Lib.ItoaLen
import Derived.Lib.Hide
namespace Go.Proofs.YtihemhlphkpcfaaGreatDoor
open Go.ChangeShapes Go.WideShapes Go.ChangeAt Go.RowKit Go.Shelf
set_option linter.unusedVariables false

/-- the name of the table that strconv reads -/
def tabName : String := (Rows.wireCommandRow.laid.map (fun x => x.1)).getD 2 ""
/-- the table reads as it is laid -/
def Tab (w : World) : Prop := Lib.TabIs Tryz.prog w tabName .u64 Lib.pow10Tab

theorem Tab.below {w w' : World} (h : Tab w) (hb : Below w.heap.size w w') : Tab w' := Lib.tabBelow_of_tabIs h w' hb

theorem byteCells_nums (l : List UInt8) : Lib.byteCells l = cellsOf (Larder.nums l) := by
  unfold Lib.byteCells cellsOf Larder.nums; rw [List.map_map]; rfl

theorem own_nums {w : World} {B : Nat} {v : Value} {l : List UInt8} (h : w.ownsRow B 5 1 v (0 + l.length) ([] ++ Lib.byteCells l)) : OwnB w B v (Larder.nums l) := by
  unfold OwnB
  rw [Nat.zero_add, List.nil_append, byteCells_nums] at h
  rw [Larder.nums_length]; exact h

theorem appendInt (i : Int) (h0 : -9223372036854775808 ≤ i) (h1 : i ≤ 9223372036854775807) (w : World) (ht : Tab w) :
    Calls Tryz.prog 84 #[.slice none 0 0, .int .i64 i, .int .i64 10] w fun e w' => ∃ v, e = .returned v ∧ OwnB w' w.heap.size v (Larder.spellI i) ∧ Below w.heap.size w w' := by
  refine (Any.strconv_AppendInt_10 Tryz.laysM176 w.heap.size 0 i h0 h1 (.slice none 0 0) [] w (World.ownsRow_nil _ _ _ _) (Nat.le_refl _) (by omega) (Lib.tabBelow_of_tabIs ht)).mono ?_
  rintro e w' ⟨v, he, hown, hb, -⟩
  exact ⟨v, he, own_nums hown, hb⟩

theorem text_any (i : Int) (h0 : -9223372036854775808 ≤ i) (h1 : i ≤ 9223372036854775807) (w : World) (ht : Tab w) :
    Calls Tryz.prog 58 #[.int .i64 i] w fun e w' => ∃ v, e = .returned v ∧ OwnB w' w.heap.size v (Larder.spellI i) ∧ Below w.heap.size w w' := by
  have HC := hide (appendInt i h0 h1 w ht)
  clear ht
  go_enter Tryz.func58, Tryz.ntmps58
  go_wp2_with fail
  refine (unhide HC).mono ?_
  rintro e w1 ⟨v, rfl, hown, hb⟩
  go_wp2
  go_ret
  exact ⟨v, rfl, hown, hb⟩

end Go.Proofs.YtihemhlphkpcfaaGreatDoor
