/- append([]byte("*"), m...): the row of a constant is never written. -/
import Derived.Test.YtidfbelckdlbhabGreatCnc
import Derived.Lib.AppendZeros
namespace Go.Proofs.YtidfbelckdlbhabGreat
open Go.ChangeShapes Go.WideShapes Go.ChangeAt Go.RowKit
set_option linter.unusedVariables false
set_option maxRecDepth 20000
set_option maxHeartbeats 1000000

theorem run_app_one (w : World) (g y : Nat) (a : Option Addr) (c : Nat) (m : List Nat) (hg : w.cell? ⟨g, 0, none⟩ = some (.int .u8 (y : Nat))) (hB : Bytes w a m) (hz : a = none → c = 0) (hl : m.length ≤ 140737488355000) :
    ∃ a' c' w', (Builtin.append_ #[34, 34] 34 #[.slice (some ⟨g, 0, none⟩) 1 1, .slice a m.length c]).run Tryz.prog w = .ok (.slice a' (m.length + 1) c') w' ∧ Bytes w' a' (y :: m) ∧ Below w.heap.size w w' ∧ (m.length + 1 ≤ c' ∧ c' ≤ 9223372036854775807) ∧ ∀ b off, a' = some ⟨b, off, none⟩ → b = g ∨ w.heap.size ≤ b := by
  obtain ⟨i0, hi, hz0, hz1, hz2⟩ := info_parts Tryz.info5
  have hlt : g < w.heap.size := block_lt_of_cell hg
  have self : Bytes w (some ⟨g, 0, none⟩) [y] := .inr ⟨g, 0, rfl, hlt, fun i hi => by
    match i, hi with
    | 0, _ => exact hg⟩
  rcases Nat.eq_zero_or_pos m.length with h0 | h0
  · have : m = [] := List.eq_nil_of_length_eq_zero h0
    subst this
    refine ⟨some ⟨g, 0, none⟩, 1, w, ?_, self, Below.refl _ _, ⟨by simp, by omega⟩, fun b off e => by cases e; exact .inl rfl⟩
    cases a with
    | none =>
      obtain rfl := hz rfl
      simp [Builtin.append_, run_underlying Tryz.underlying34, sizeOf, typeInfo, hi, Builtin.lenOf, Builtin.firstCells, storeCells]
    | some x =>
      have hf := run_firstCells_some (P := Tryz.prog) w i0.size 0 x 0 c [] (by simp) (fun j v h => by simp at h)
      simp [Builtin.append_, run_underlying Tryz.underlying34, sizeOf, typeInfo, hi, Builtin.lenOf, hf, storeCells]
  · obtain ⟨bb, off, rfl, hb, hc⟩ := hB.at h0
    have hnews : ∀ j u, (cellsOf m)[j]? = some u → w.cell? ((⟨bb, off, none⟩ : Addr).add j) = some u := by
      intro j u hu
      obtain ⟨hj, rfl⟩ := cellsOf_get m j u hu
      rw [add_plain]; exact hc j hj
    have holds : ∀ j u, [Value.int .u8 (y : Nat)][j]? = some u → w.cell? ((⟨g, 0, none⟩ : Addr).add j) = some u := by
      intro j u hu
      match j, hu with
      | 0, hu =>
        rw [add_plain, hg]
        simpa using hu
    have hr := run_append_grow (P := Tryz.prog) w 34 34 5 i0 (.int .u8 0) Tryz.underlying34 hi hz0 ⟨g, 0, none⟩ 1 1 [.int .u8 (y : Nat)] (by rw [hz1]; rfl) holds ⟨bb, off, none⟩ m.length c (cellsOf m) (by rw [hz1, cellsOf_length, Nat.mul_one]) hnews (by omega) (by omega) (growslice_fits (by omega) (by rw [hz2]; omega))
    rw [show 1 + m.length = m.length + 1 by omega] at hr
    refine ⟨_, _, _, hr, .inr ⟨w.heap.size, 0, rfl, by simp, fun j hj => ?_⟩, ⟨rfl, rfl, rfl, by simp, fun k hk => Below.heap_alloc w _ k hk⟩, ⟨grownCap_ge w (m.length + 1) 1 5, grownCap_le_maxLen w (m.length + 1) 1 5 (by simp only [maxLen]; omega)⟩, fun b off e => by cases e; exact .inr (Nat.le_refl _)⟩
    have hrow : (w.drew.alloc (.cells (#[Value.int .u8 (y : Nat)] ++ (cellsOf m).toArray ++ Builtin.zeroCells (Value.int .u8 0).cells (grownCap w (m.length + 1) 1 5 - (m.length + 1))) 5)).heap[w.heap.size]? = some (.cells (#[Value.int .u8 (y : Nat)] ++ (cellsOf m).toArray ++ Builtin.zeroCells (Value.int .u8 0).cells (grownCap w (m.length + 1) 1 5 - (m.length + 1))) 5 (0, 0)) := heap_alloc_new w.drew _
    rw [Nat.zero_add, cell_of_row _ _ _ _ _ _ hrow]
    rw [List.length_cons] at hj
    have hlen : (#[Value.int .u8 (y : Nat)] ++ (cellsOf m).toArray).size = m.length + 1 := by simp [cellsOf_length]
    rw [Array.getElem?_append, if_pos (by rw [hlen]; omega)]
    match j, hj with
    | 0, _ => simp
    | j + 1, hj =>
      rw [Array.getElem?_append, if_neg (by simp)]
      simp only [List.size_toArray, List.length_singleton, Nat.add_sub_cancel, List.getElem?_toArray]
      show (cellsOf m)[j]? = _
      rw [cellsOf_at m j (by omega)]
      rfl

/-- append([]byte("*"), m...) in a walk -/
theorem wpList_app1 {w : World} {ops : Array Oper} {rest : List Oper} {o : Oper} {act : Act} {Q : Exit → Act → World → Prop} (hgd : o.guard = none) (s x : Operand)
    (ho : o.op = .call { callee := .builtin .append, args := #[s, x], argTypes := #[34, 34] }) (hty : o.type = 34)
    (g y : Nat) (m : List Nat) (a : Option Addr) (n c : Nat) (hs : act.eval s = .slice (some ⟨g, 0, none⟩) 1 1) (hx : act.eval x = .slice a n c) (hg : w.cell? ⟨g, 0, none⟩ = some (.int .u8 (y : Nat))) (hn : n = m.length) (hB : Bytes w a m) (hz : a = none → c = 0) (hl : m.length ≤ 140737488355000)
    (h : ∀ a' c' w', Bytes w' a' (y :: m) → Below w.heap.size w w' → (m.length + 1 ≤ c' ∧ c' ≤ 9223372036854775807) → (∀ b off, a' = some ⟨b, off, none⟩ → b = g ∨ w.heap.size ≤ b) → wpList Tryz.prog ops Q rest (act.put o.dst (.slice a' (y :: m).length c')) w') : wpList Tryz.prog ops Q (o :: rest) act w := by
  subst hn
  obtain ⟨a', c', w', h1, h2, h3, h4, h5⟩ := run_app_one w g y a c m hg hB hz hl
  exact Lib.wpList_append_run w hgd s x 34 34 ho _ _ hs hx _ _ (by rw [hty]; exact h1) (h a' c' w' h2 h3 h4 h5)
end Go.Proofs.YtidfbelckdlbhabGreat
