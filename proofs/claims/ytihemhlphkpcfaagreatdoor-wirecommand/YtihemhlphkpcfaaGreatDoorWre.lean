/- The document's Command. -/
import Derived.Test.YtihemhlphkpcfaaGreatDoorWrd
namespace Go.Proofs.YtihemhlphkpcfaaGreatDoor
open Go.ChangeShapes Go.WideShapes Go.ChangeAt Go.RowKit
set_option linter.unusedVariables false
set_option linter.unusedSimpArgs false
set_option maxRecDepth 20000
set_option maxHeartbeats 4000000

theorem spell_smallI (n : Int) : Small (Larder.spellI n) := fun i hi => Larder.nums_small _ i hi
theorem small_app {x y : List Nat} (hx : Small x) (hy : Small y) : Small (x ++ y) := fun i hi => by
  rw [List.length_append] at hi
  rw [List.getD_eq_getElem?_getD]
  by_cases q : i < x.length
  · rw [List.getElem?_append_left q, ← List.getD_eq_getElem?_getD]; exact hx i q
  · rw [List.getElem?_append_right (by omega), ← List.getD_eq_getElem?_getD]; exact hy _ (by omega)
theorem small_of {l : List Nat} (h : l.all (fun c => decide (c < 256)) = true) : Small l := fun i hi => by
  have := List.all_eq_true.1 h _ (List.getElem_mem hi)
  rw [List.getD_eq_getElem?_getD, List.getElem?_eq_getElem hi]
  simpa using this
theorem numL_small (mk : Nat) (n : Int) (h : mk < 256) : Small (numL mk n) := small_app (small_app (small_of (by simp [h])) (spell_smallI n)) (small_of (by decide))
theorem textL_small (T : List Nat) (h : Small T) : Small (textL T) := small_app (small_app (numL_small 36 _ (by decide)) h) (small_of (by decide))
structure Grf (w W : World) (B : Nat) (v : Value) (n : Nat) (l : List Nat) : Prop where
  bel : Below B w W
  sz : B ≤ W.heap.size
  row : RwF W v n l
  own : ∀ g, v.ownBlock = some g → B ≤ g
theorem RwF.below {w w' : World} {v : Value} {n : Nat} {l : List Nat} (h : RwF w v n l) (hb : Below w.heap.size w w') : RwF w' v n l := by
  obtain ⟨g, cap, cur, fz, h1, h2, h3⟩ := h
  exact ⟨g, cap, cur, fz, h1, (hb.block g (block_lt h2)).trans h2, h3⟩
theorem Grf.below {w W W' : World} {B n : Nat} {v : Value} {l : List Nat} (h : Grf w W B v n l) (hb : Below W.heap.size W W') : Grf w W' B v n l :=
  ⟨h.bel.trans (hb.mono h.sz), Nat.le_trans h.sz hb.size, h.row.below hb, h.own⟩
theorem Grf.app {w W w' : World} {B n : Nat} {v v' : Value} {l m : List Nat} (h : Grf w W B v n l) (hR : RwF w' v' (n + m.length) (l ++ m)) (hG : Gw W w' v v') : Grf w w' B v' (n + m.length) (l ++ m) := by
  refine ⟨h.bel.trans ⟨hG.os, hG.tape, hG.output, hG.size, fun b hb => hG.oth b (Nat.lt_of_lt_of_le hb h.sz) (fun e => by have := h.own b e; omega)⟩, Nat.le_trans h.sz hG.size, hR, fun g hg => ?_⟩
  rcases hG.own g hg with q | q
  · exact h.own g q
  · exact Nat.le_trans h.sz q
theorem RwF.len {w : World} {v : Value} {n : Nat} {l : List Nat} (h : RwF w v n l) : n = l.length := by
  obtain ⟨g, cap, cur, fz, _, _, _, _, _, _, h7, _⟩ := h
  exact h7
theorem RwF.shape {w : World} {v : Value} {n : Nat} {l : List Nat} (h : RwF w v n l) : ∃ a c, v = .slice a n c := by
  obtain ⟨g, cap, cur, fz, h1, _⟩ := h
  exact ⟨_, _, h1⟩
theorem conv_text' (w : World) (m : List Nat) (hs : Small m) (hl : m.length ≤ 140737488355328) :
    ∃ c w', (convert 9 25 (.string (sB m))).run Tryz.prog w = .ok (.slice (some ⟨w.heap.size, 0, none⟩) m.length c) w' ∧ Grf w w' w.heap.size (.slice (some ⟨w.heap.size, 0, none⟩) m.length c) m.length m := by
  have h := Lib.run_convert_string_bytes (P := Tryz.prog) w 9 25 5 (sB m) Tryz.underlying9 Tryz.underlying25 Tryz.underlying5
  have hz := sB_size m
  rw [hz] at h
  have hb := Go.Joins.below_bytesWorld _ w 5 (sB m) (Nat.le_refl w.heap.size)
  have hge := grownCap_ge w m.length 0 5
  have hsz : (Lib.bytesCells w 5 (sB m)).size = grownCap w m.length 0 5 := by
    unfold Lib.bytesCells
    rw [Array.size_append, Array.size_map, Array.size_replicate, hz]
    have : (sB m).data.size = m.length := hz
    omega
  refine ⟨_, _, h, hb, hb.size, ⟨w.heap.size, _, _, _, rfl, Lib.bytesWorld_at_new w 5 (sB m), hge, hsz.symm, grownCap_le_maxLen w m.length 0 5 (by simp only [maxLen]; omega), fun k hk => ?_, rfl, fun k hk => ?_⟩, fun g hg => by simp [Value.ownBlock] at hg; omega⟩
  · rw [decide_eq_false (show ¬ (Lib.bytesCells w 5 (sB m)).size ≤ k by omega)]; rfl
  · have h1 := Lib.bytesWorld_cell w 5 (sB m) k (by rw [hz]; exact hk)
    rw [cell_of_row _ _ _ _ _ _ (Lib.bytesWorld_at_new w 5 (sB m))] at h1
    rw [h1]
    have h2 := strCells_sB m hs k hk
    unfold Lib.strCells at h2
    rw [List.getElem?_map] at h2
    have hlt : k < (sB m).data.toList.length := by rw [Array.length_toList]; show k < (sB m).size; omega
    rw [List.getElem?_eq_getElem hlt] at h2
    rw [List.getD_eq_getElem?_getD, List.getElem?_eq_getElem hlt]
    simpa using h2
theorem app_text {w : World} {ops : Array Oper} {rest : List Oper} {o : Oper} {act : Act} {Q : Exit → Act → World → Prop} (hgd : o.guard = none) (so x : Operand) (ho : o.op = .call { callee := .builtin .append, args := #[so, x], argTypes := #[25, 9] }) (hty : o.type = 25)
    (v : Value) (n : Nat) (l m : List Nat) (hs : act.eval so = v) (h : RwF w v n l) (hx : act.eval x = .string (sB m)) (hm : Small m) (hl : n + m.length ≤ 140737488355328)
    (hk : ∀ v' w', RwF w' v' (n + m.length) (l ++ m) → Gw w w' v v' → wpList Tryz.prog ops Q rest (act.put o.dst v') w') : wpList Tryz.prog ops Q (o :: rest) act w := by
  obtain ⟨v', w', h1, h2, h3⟩ := run_app_text w v n l m h hm hl
  refine wpList_plain hgd fun K hK => ?_
  unfold Oper.wp execOp
  simp only [ho, resolve, invoke, builtin, Sem.run_bind, Sem.run_pure, Result.andThen_ok, List.map_toArray, List.map_cons, List.map_nil, hs, hx, hty, h1]
  exact hK _ _ (hk v' w' h2 h3)
end Go.Proofs.YtihemhlphkpcfaaGreatDoor
