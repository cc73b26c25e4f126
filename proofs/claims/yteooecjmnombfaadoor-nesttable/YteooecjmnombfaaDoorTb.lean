/- The table of the commands. -/
import Derived.Test.YteooecjmnombfaaDoorRows
import Derived.Deep.QuietTactic
import Derived.BigQuiet
import Derived.WalkSmall
import Derived.Laws.AppendOwnNone
import Derived.Laws.OwnMore
import Derived.WalkKit
import Derived.WalkLawsBesides
import Derived.WalkSpells
import Derived.ProofKit
import Derived.OpenShut
import Derived.ShutString
import Derived.ChangeOld
import Derived.Below
import Derived.Laws.BytesArg
import Derived.Laws.BitsAllLaws
import Derived.Lib.LaidTab
import Derived.Great.BuildSlice
import Derived.Deep.WholeRow
import Derived.Deep.RegionHeld3
namespace Go.Proofs.YteooecjmnombfaaDoor
open Go.ChangeShapes Go.WideShapes Go.ChangeAt Go.RowKit
set_option linter.unusedVariables false
set_option maxRecDepth 20000

theorem hide {p : Prop} (h : p) : Hid p := h
theorem unhide {p : Prop} (h : Hid p) : p := h.out
theorem ret_bool {a b : Bool} (h : a = b) : Ending.returned (.bool a) = .returned (.bool b) := by rw [h]

/-- a command's row -/
structure Cm where
  n : List UInt8
  a : Int
  b : Bool
  f : Int
  l : Int
  s : Int
  k : Int
def Cm.row (c : Cm) : List Value := [.string ⟨c.n.toArray⟩, .int .i64 c.a, .bool c.b, .int .i64 c.f, .int .i64 c.l, .int .i64 c.s, .int .i64 c.k]
def Cm.data {H : Type} (c : Cm) : DataW H := .agg [.lit (.string c.n), .lit (.int .i64 c.a), .lit (.bool c.b), .lit (.int .i64 c.f), .lit (.int .i64 c.l), .lit (.int .i64 c.s), .lit (.int .i64 c.k)]
def tabC : List Cm := [⟨[72, 68, 69, 76], (-3), true, 1, 1, 1, 0⟩,
  ⟨[72, 69, 88, 73, 83, 84, 83], 3, false, 1, 1, 1, 0⟩,
  ⟨[72, 71, 69, 84], 3, false, 1, 1, 1, 0⟩,
  ⟨[72, 71, 69, 84, 65, 76, 76], 2, false, 1, 1, 1, 0⟩,
  ⟨[72, 73, 78, 67, 82, 66, 89], 4, true, 1, 1, 1, 0⟩,
  ⟨[72, 75, 69, 89, 83], 2, false, 1, 1, 1, 0⟩,
  ⟨[72, 76, 69, 78], 2, false, 1, 1, 1, 0⟩,
  ⟨[72, 77, 71, 69, 84], (-3), false, 1, 1, 1, 0⟩,
  ⟨[72, 83, 67, 65, 78], (-3), false, 1, 1, 1, 0⟩,
  ⟨[72, 83, 69, 84], (-4), true, 1, 1, 1, 0⟩,
  ⟨[72, 83, 69, 84, 78, 88], 4, true, 1, 1, 1, 0⟩,
  ⟨[72, 83, 84, 82, 76, 69, 78], 3, false, 1, 1, 1, 0⟩,
  ⟨[72, 86, 65, 76, 83], 2, false, 1, 1, 1, 0⟩,
  ⟨[83, 65, 68, 68], (-3), true, 1, 1, 1, 0⟩,
  ⟨[83, 67, 65, 82, 68], 2, false, 1, 1, 1, 0⟩,
  ⟨[83, 68, 73, 70, 70], (-2), false, 1, (-1), 1, 0⟩,
  ⟨[83, 68, 73, 70, 70, 83, 84, 79, 82, 69], (-3), true, 1, (-1), 1, 0⟩,
  ⟨[83, 73, 78, 84, 69, 82], (-2), false, 1, (-1), 1, 0⟩,
  ⟨[83, 73, 78, 84, 69, 82, 67, 65, 82, 68], (-3), false, 0, 0, 0, 1⟩,
  ⟨[83, 73, 78, 84, 69, 82, 83, 84, 79, 82, 69], (-3), true, 1, (-1), 1, 0⟩,
  ⟨[83, 73, 83, 77, 69, 77, 66, 69, 82], 3, false, 1, 1, 1, 0⟩,
  ⟨[83, 77, 69, 77, 66, 69, 82, 83], 2, false, 1, 1, 1, 0⟩,
  ⟨[83, 77, 73, 83, 77, 69, 77, 66, 69, 82], (-3), false, 1, 1, 1, 0⟩,
  ⟨[83, 77, 79, 86, 69], 4, true, 1, 2, 1, 0⟩,
  ⟨[83, 80, 79, 80], (-2), true, 1, 1, 1, 0⟩,
  ⟨[83, 82, 69, 77], (-3), true, 1, 1, 1, 0⟩,
  ⟨[83, 83, 67, 65, 78], (-3), false, 1, 1, 1, 0⟩,
  ⟨[83, 85, 78, 73, 79, 78], (-2), false, 1, (-1), 1, 0⟩,
  ⟨[83, 85, 78, 73, 79, 78, 83, 84, 79, 82, 69], (-3), true, 1, (-1), 1, 0⟩]
def tabL : List Value := (tabC.map Cm.row).flatten
def tabA : Array Value := tabL.toArray
theorem tabC_len : tabC.length = 29 := rfl
theorem tabL_len : tabL.length = 203 := by decide
theorem tabA_size : tabA.size = 203 := by rw [show tabA.size = tabL.length from rfl]; exact tabL_len

theorem flat7 : ∀ (L : List (List Value)) (i j : Nat), (∀ r ∈ L, r.length = 7) → i < L.length → j < 7 → L.flatten[7 * i + j]? = (L.getD i [])[j]?
  | [], i, j, _, h, _ => absurd h (Nat.not_lt_zero _)
  | r :: L, 0, j, hr, _, hj => by
    have := hr r (List.mem_cons_self ..)
    rw [List.flatten_cons, List.getElem?_append_left (by omega), Nat.mul_zero, Nat.zero_add]; rfl
  | r :: L, i + 1, j, hr, h, hj => by
    have h8 := hr r (List.mem_cons_self ..)
    rw [List.flatten_cons, List.getElem?_append_right (by omega), h8, show 7 * (i + 1) + j - 7 = 7 * i + j by omega]
    exact flat7 L i j (fun x hx => hr x (List.mem_cons_of_mem _ hx)) (by simpa using h) hj
/-- the row of a place -/
theorem tab_at (i : Nat) (hi : i < 29) : ∃ c : Cm, tabC[i]? = some c ∧ ∀ j, j < 7 → tabA[7 * i + j]? = c.row[j]? := by
  have hl := tabC_len
  obtain ⟨c, hc⟩ : ∃ c, tabC[i]? = some c := ⟨_, List.getElem?_eq_getElem (by omega)⟩
  refine ⟨c, hc, fun j hj => ?_⟩
  show tabL.toArray[7 * i + j]? = _
  rw [List.getElem?_toArray]
  unfold tabL
  rw [flat7 _ i j (fun r hr => by obtain ⟨x, _, rfl⟩ := List.mem_map.1 hr; rfl) (by rw [List.length_map]; omega) hj, List.getD_eq_getElem?_getD, List.getElem?_map, hc]
  rfl

section
variable {H : Type} {enc : TypeId × Value → H} {w : World} {base : Nat} {sp : Nat → Bool} {held : Bool} {fuel : Nat}
theorem cell_str {cs : List Value} {x : DataW H × List MemPlace} (h : DataW.trod enc Tryd.prog w base sp held fuel 9 cs = some x) : ∃ s : ByteArray, cs = [.string s] ∧ x.1 = .lit (.string s.data.toList) := by
  obtain ⟨s, h1, h2, _⟩ := DataW.trod_string Tryd.underlying9 h
  exact ⟨s, h1, by rw [h2]⟩
theorem cell_int {cs : List Value} {x : DataW H × List MemPlace} (h : DataW.trod enc Tryd.prog w base sp held fuel 3 cs = some x) : ∃ n : Int, cs = [.int .i64 n] ∧ x.1 = .lit (.int .i64 n) := by
  obtain ⟨s, h1, h2, _⟩ := DataW.trod_int Tryd.underlying3 h
  exact ⟨s, h1, by rw [h2]⟩
theorem cell_bool {cs : List Value} {x : DataW H × List MemPlace} (h : DataW.trod enc Tryd.prog w base sp held fuel 4 cs = some x) : ∃ b : Bool, cs = [.bool b] ∧ x.1 = .lit (.bool b) := by
  obtain ⟨s, h1, h2⟩ := DataW.trod_bool Tryd.underlying4 h
  exact ⟨s, h1, by rw [h2]⟩
theorem row_cells {cs : List Value} {x : DataW H × List MemPlace} (h : DataW.trod enc Tryd.prog w base sp held fuel 29 cs = some x) (c : Cm) (hx : x.1 = c.data) : cs = c.row := by
  obtain ⟨xs, n, _, rfl, hl, hlen, hf⟩ := DataW.trod_struct Tryd.underlying29 h
  have c7 : Tryd.prog.cellsOf 29 = 7 := by kernel_rfl
  have c9 : Tryd.prog.cellsOf 9 = 1 := by kernel_rfl
  have c3 : Tryd.prog.cellsOf 3 = 1 := by kernel_rfl
  have c4 : Tryd.prog.cellsOf 4 = 1 := by kernel_rfl
  rw [c7] at hl
  match cs, hl with
  | [v0, v1, v2, v3, v4, v5, v6], _ =>
    match xs, hlen with
    | [y0, y1, y2, y3, y4, y5, y6], _ =>
      have k0 : DataW.trod enc Tryd.prog w base sp held n 9 (([v0, v1, v2, v3, v4, v5, v6].drop 0).take (Tryd.prog.cellsOf 9)) = some y0 := hf 0 _ rfl
      rw [c9] at k0
      have k1 : DataW.trod enc Tryd.prog w base sp held n 3 (([v0, v1, v2, v3, v4, v5, v6].drop 1).take (Tryd.prog.cellsOf 3)) = some y1 := hf 1 _ rfl
      rw [c3] at k1
      have k2 : DataW.trod enc Tryd.prog w base sp held n 4 (([v0, v1, v2, v3, v4, v5, v6].drop 2).take (Tryd.prog.cellsOf 4)) = some y2 := hf 2 _ rfl
      rw [c4] at k2
      have k3 : DataW.trod enc Tryd.prog w base sp held n 3 (([v0, v1, v2, v3, v4, v5, v6].drop 3).take (Tryd.prog.cellsOf 3)) = some y3 := hf 3 _ rfl
      rw [c3] at k3
      have k4 : DataW.trod enc Tryd.prog w base sp held n 3 (([v0, v1, v2, v3, v4, v5, v6].drop 4).take (Tryd.prog.cellsOf 3)) = some y4 := hf 4 _ rfl
      rw [c3] at k4
      have k5 : DataW.trod enc Tryd.prog w base sp held n 3 (([v0, v1, v2, v3, v4, v5, v6].drop 5).take (Tryd.prog.cellsOf 3)) = some y5 := hf 5 _ rfl
      rw [c3] at k5
      have k6 : DataW.trod enc Tryd.prog w base sp held n 3 (([v0, v1, v2, v3, v4, v5, v6].drop 6).take (Tryd.prog.cellsOf 3)) = some y6 := hf 6 _ rfl
      rw [c3] at k6
      obtain ⟨s, e0, d0⟩ := cell_str k0
      obtain ⟨a, e1, d1⟩ := cell_int k1
      obtain ⟨b, e2, d2⟩ := cell_bool k2
      obtain ⟨f, e3, d3⟩ := cell_int k3
      obtain ⟨l, e4, d4⟩ := cell_int k4
      obtain ⟨st, e5, d5⟩ := cell_int k5
      obtain ⟨q, e6, d6⟩ := cell_int k6
      simp only [List.map_cons, List.map_nil, d0, d1, d2, d3, d4, d5, d6, Cm.data, DataW.agg.injEq, List.cons.injEq, DataW.lit.injEq, Lit.string.injEq, Lit.int.injEq, Lit.bool.injEq, true_and, and_true] at hx
      obtain ⟨h0, h1, h2, h3, h4, h5, h6⟩ := hx
      simp only [List.drop_zero, List.drop_succ_cons, List.take_succ_cons, List.take_zero, List.cons.injEq, and_true] at e0 e1 e2 e3 e4 e5 e6
      have hs : s = ⟨c.n.toArray⟩ := by rw [← h0]
      rw [e0, e1, e2, e3, e4, e5, e6, h1, h2, h3, h4, h5, h6, hs]
      rfl
theorem tab_cells {cs : List Value} {p : List MemPlace} (h : DataW.trod enc Tryd.prog w base sp held fuel 30 cs = some (.agg (tabC.map Cm.data), p)) : cs = tabL := by
  obtain ⟨xs, m, _, hx, hl, hlen, hf⟩ := DataW.trod_array Tryd.underlying30 h
  have c30 : Tryd.prog.cellsOf 30 = 203 := by kernel_rfl
  have c7 : Tryd.prog.cellsOf 29 = 7 := by kernel_rfl
  rw [c30] at hl
  rw [c7] at hf
  have hxs : xs.map (fun x => x.1) = tabC.map Cm.data := by
    have := congrArg Prod.fst hx
    simpa using this.symm
  have hl2 := tabL_len
  have hc := tabC_len
  apply List.ext_getElem?
  intro k
  by_cases hk : k < 203
  · obtain ⟨i, j, hi, hj, rfl⟩ : ∃ i j, i < 29 ∧ j < 7 ∧ k = 7 * i + j := ⟨k / 7, k % 7, by omega, by omega, by omega⟩
    obtain ⟨c, hci, hrow⟩ := tab_at i hi
    have hxi : (xs.map (fun x => x.1))[i]? = some c.data := by rw [hxs, List.getElem?_map, hci]; rfl
    rw [List.getElem?_map, Option.map_eq_some_iff] at hxi
    obtain ⟨x, hx1, hx2⟩ := hxi
    have hr := row_cells ((hf i hi).trans hx1) c hx2
    have hr2 := hrow j hj
    rw [show tabA[7 * i + j]? = tabL[7 * i + j]? from by show tabL.toArray[7 * i + j]? = _; rw [List.getElem?_toArray]] at hr2
    rw [hr2, ← hr, List.getElem?_take, if_pos hj, List.getElem?_drop, Nat.mul_comm i 7]
  · rw [List.getElem?_eq_none (by omega), List.getElem?_eq_none (by omega)]
end

/-- the name of the table -/
def tabName : String := (Rows.nestTableRow.laid.map (fun x => x.1)).getD 0 ""
/-- the table reads as it is laid -/
def Tab (w : World) : Prop := w.var? Tryd.prog tabName = some tabA
theorem laid_eq {H : Type} : (Rows.laid_larder_nest_commands : DataW H) = .agg (tabC.map Cm.data) := rfl
theorem tab_of_laid {W : World} (h : laidMet Tryd.prog Rows.nestTableRow.laid W) : Tab W := by
  obtain ⟨ps, ⟨g, t, cs, fuel, p, q, hg, ht, hvar, hd, _, _⟩, _⟩ := h
  have hg' : Tryd.prog.globalNamed tabName = some 0 := by kernel_rfl
  obtain rfl : 0 = g := Option.some.inj (hg'.symm.trans hg)
  have hty : (Tryd.prog.globals[0]?).map (fun g => g.type) = some 30 := by kernel_rfl
  obtain rfl : 30 = t := Option.some.inj (hty.symm.trans ht)
  show W.var? Tryd.prog tabName = _
  have hv : W.var? Tryd.prog tabName = some cs := hvar
  have he : cs.toList = tabL := by
    have h2 := hd
    rw [show (Rows.laid_larder_nest_commands : DataW Unit) = _ from laid_eq] at h2
    exact tab_cells h2
  rw [hv, show tabA = tabL.toArray from rfl, ← he]
end Go.Proofs.YteooecjmnombfaaDoor
