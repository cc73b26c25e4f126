/- word.Text and word.Digits. -/
import Derived.Test.YtochdajeocganabDoorRows
import Derived.Test.YtochdajeocganabDoorShelf
import Derived.Test.YtochdajeocganabDoorSame
import Derived.Test.YtochdajeocganabDoorTextMath
import Derived.Lib.ItoaLen
import Derived.Lib.Hide
namespace Go.Proofs.YtochdajeocganabDoor
open Go.ChangeShapes Go.WideShapes Go.ChangeAt Go.RowKit Go.Shelf
set_option linter.unusedVariables false

/-- the name of the table that strconv reads -/
def tabName : String := (Rows.wordNumbersRow.laid.map (fun x => x.1)).getD 2 ""
/-- the table reads as it is laid -/
def Tab (w : World) : Prop := Lib.TabIs Tryd.prog w tabName .u64 Lib.pow10Tab

theorem Tab.below {w w' : World} (h : Tab w) (hb : Below w.heap.size w w') : Tab w' := Lib.tabBelow_of_tabIs h w' hb

theorem byteCells_nums (l : List UInt8) : Lib.byteCells l = cellsOf (Larder.nums l) := by
  unfold Lib.byteCells cellsOf Larder.nums; rw [List.map_map]; rfl

theorem own_nums {w : World} {B : Nat} {v : Value} {l : List UInt8} (h : w.ownsRow B 5 1 v (0 + l.length) ([] ++ Lib.byteCells l)) : OwnB w B v (Larder.nums l) := by
  unfold OwnB
  rw [Nat.zero_add, List.nil_append, byteCells_nums] at h
  rw [Larder.nums_length]; exact h

theorem appendInt (i : Int) (h0 : -9223372036854775808 ≤ i) (h1 : i ≤ 9223372036854775807) (w : World) (ht : Tab w) :
    Calls Tryd.prog 41 #[.slice none 0 0, .int .i64 i, .int .i64 10] w fun e w' => ∃ v, e = .returned v ∧ OwnB w' w.heap.size v (Larder.spellI i) ∧ Below w.heap.size w w' := by
  refine (Any.strconv_AppendInt_10 Tryd.laysM176 w.heap.size 0 i h0 h1 (.slice none 0 0) [] w (World.ownsRow_nil _ _ _ _) (Nat.le_refl _) (by omega) (Lib.tabBelow_of_tabIs ht)).mono ?_
  rintro e w' ⟨v, he, hown, hb, -⟩
  exact ⟨v, he, own_nums hown, hb⟩

theorem appendUint_in (u : Nat) (hu : u < 18446744073709551616) (w : World) (ht : Tab w) :
    Calls Tryd.prog 64 #[.slice none 0 0, .int .u64 u, .int .i64 10] w fun e w' => ∃ v, e = .returned v ∧ OwnB w' w.heap.size v (Larder.spell u) ∧ Below w.heap.size w w' := by
  refine (Any.internal_strconv_AppendUint_10 Tryd.laysM288 w.heap.size 0 u hu (.slice none 0 0) [] w (World.ownsRow_nil _ _ _ _) (Nat.le_refl _) (by omega) ht).mono ?_
  rintro e w' ⟨v, he, hown, hb, -⟩
  exact ⟨v, he, own_nums hown, hb⟩

theorem text_any (i : Int) (h0 : -9223372036854775808 ≤ i) (h1 : i ≤ 9223372036854775807) (w : World) (ht : Tab w) :
    Calls Tryd.prog 23 #[.int .i64 i] w fun e w' => ∃ v, e = .returned v ∧ OwnB w' w.heap.size v (Larder.spellI i) ∧ Below w.heap.size w w' := by
  have HC := hide (appendInt i h0 h1 w ht)
  clear ht
  go_enter Tryd.func23, Tryd.ntmps23
  go_wp2_with fail
  refine (unhide HC).mono ?_
  rintro e w1 ⟨v, rfl, hown, hb⟩
  go_wp2
  go_ret
  exact ⟨v, rfl, hown, hb⟩

theorem appendUint (u : Nat) (hu : u < 18446744073709551616) (w : World) (ht : Tab w) :
    Calls Tryd.prog 42 #[.slice none 0 0, .int .u64 u, .int .i64 10] w fun e w' => ∃ v, e = .returned v ∧ OwnB w' w.heap.size v (Larder.spell u) ∧ Below w.heap.size w w' := by
  have HC := hide (appendUint_in u hu w ht)
  clear ht
  go_enter Tryd.func42, Tryd.ntmps42
  go_wp2_with fail
  refine (unhide HC).mono ?_
  rintro e w1 ⟨v, rfl, hown, hb⟩
  go_wp2
  go_ret
  exact ⟨v, rfl, hown, hb⟩

theorem digits_any (u : Nat) (hu : u < 18446744073709551616) (w : World) (ht : Tab w) :
    Calls Tryd.prog 25 #[.int .u64 u] w fun e w' => ∃ v, e = .returned v ∧ OwnB w' w.heap.size v (Larder.spell u) ∧ Below w.heap.size w w' := by
  have HC := hide (appendUint u hu w ht)
  clear ht
  go_enter Tryd.func25, Tryd.ntmps25
  go_wp2_with fail
  refine (unhide HC).mono ?_
  rintro e w1 ⟨v, rfl, hown, hb⟩
  go_wp2
  go_ret
  exact ⟨v, rfl, hown, hb⟩

/-- from the row's list to the table -/
theorem tab_of_laid {W : World} (h : laidMet Tryd.prog Rows.wordNumbersRow.laid W) : Tab W := by
  obtain ⟨ps, ⟨_, _, _, _, _, _, _, _, _, _, ⟨_, _, _, _, _, _, _, _, _, _, h3, _⟩, _⟩, _, _⟩ := h
  obtain ⟨g', t', cs, fuel, p, q, hg', ht', hvar, hd, hr, hp⟩ := h3
  have hg : Tryd.prog.globalNamed tabName = some 0 := by kernel_rfl
  have e1 : (0 : Nat) = g' := Option.some.inj (hg.symm.trans hg')
  subst e1
  have hty : (Tryd.prog.globals[0]?).map (fun g => g.type) = some 142 := by kernel_rfl
  have e2 : 142 = t' := Option.some.inj (hty.symm.trans ht')
  subst e2
  show W.var? Tryd.prog tabName = _
  have hv : W.var? Tryd.prog tabName = some cs := hvar
  rw [hv, ← Lib.cells_of_tab (zs := Lib.pow10Tab) (k := .u64) Tryd.underlying142 Tryd.underlying45 (by kernel_rfl) (by kernel_rfl) hd]
end Go.Proofs.YtochdajeocganabDoor
