/- spell; appending to a row of the call's own, or to a constant's. -/
import Derived.Test.YtidfbelckdlbhaaWpl
import Derived.Test.YtidfbelckdlbhaaSta
import Derived.Lib.SmallJoins
import Derived.Lib.SlBytesConst
import Derived.Deep.DeepAppendWide
namespace Go.Proofs.Ytidfbelckdlbhaa
open Go.ChangeShapes Go.WideShapes Go.ChangeAt Go.RowKit
set_option linter.unusedVariables false
set_option maxRecDepth 20000
set_option maxHeartbeats 1000000

theorem spell_any (b : Nat) (pl : Bool) (w : World) (hb : b < 256) : Calls Try.prog 20 #[.int .u8 (b : Nat), .bool pl] w fun e w' => e = .returned (.slice (some ⟨w.heap.size, 0, none⟩) (Larder.spellL b pl).length (Larder.spellL b pl).length) ∧ Bytes w' (some ⟨w.heap.size, 0, none⟩) (Larder.spellL b pl) ∧ Below w.heap.size w w' := by
  have B1 : Hid (Bytes (w.alloc (.cells #[.int .u8 (b : Nat)] 5)) (some ⟨w.heap.size, 0, none⟩) [b] ∧ Below w.heap.size w (w.alloc (.cells #[.int .u8 (b : Nat)] 5))) := hide ⟨.inr ⟨_, 0, rfl, by simp, fun i hi => by
    rw [cell_of_row _ _ _ _ _ _ (heap_alloc_new w _)]
    match i, hi with
    | 0, _ => rfl⟩, (Below.refl _ _).alloc (Nat.le_refl _) _⟩
  have B2 : Hid (Bytes (w.alloc (.cells #[.int .u8 92, .int .u8 (b : Nat)] 5)) (some ⟨w.heap.size, 0, none⟩) [92, b] ∧ Below w.heap.size w (w.alloc (.cells #[.int .u8 92, .int .u8 (b : Nat)] 5))) := hide ⟨.inr ⟨_, 0, rfl, by simp, fun i hi => by
    rw [cell_of_row _ _ _ _ _ _ (heap_alloc_new w _)]
    match i, hi with
    | 0, _ => rfl
    | 1, _ => rfl⟩, (Below.refl _ _).alloc (Nat.le_refl _) _⟩
  unfold Larder.spellL
  cases pl with
  | false =>
    rw [if_neg (by simp)]
    go_enter Try.func20, Try.ntmps20
    go_wp2
    all_goals go_ret
    all_goals exact ⟨rfl, unhide B2⟩
  | true =>
    by_cases h1 : b = 92
    · subst h1
      rw [if_neg (by simp)]
      go_enter Try.func20, Try.ntmps20
      go_wp2
      all_goals go_ret
      all_goals exact ⟨rfl, unhide B2⟩
    have d1 : ((b : Int) != 92) = true := by rw [bne_iff_ne]; omega
    by_cases h2 : b = 93
    · subst h2
      rw [if_neg (by simp)]
      go_enter Try.func20, Try.ntmps20
      go_wp2
      all_goals go_ret
      all_goals exact ⟨rfl, unhide B2⟩
    have d2 : ((b : Int) != 93) = true := by rw [bne_iff_ne]; omega
    by_cases h3 : b = 45
    · subst h3
      rw [if_neg (by simp)]
      go_enter Try.func20, Try.ntmps20
      go_wp2
      all_goals go_ret
      all_goals exact ⟨rfl, unhide B2⟩
    have d3 : ((b : Int) != 45) = true := by rw [bne_iff_ne]; omega
    by_cases h4 : b = 94
    · subst h4
      rw [if_neg (by simp)]
      go_enter Try.func20, Try.ntmps20
      go_wp2
      all_goals go_ret
      all_goals exact ⟨rfl, unhide B2⟩
    have d4 : ((b : Int) != 94) = true := by rw [bne_iff_ne]; omega
    rw [if_pos ⟨rfl, h1, h2, h3, h4⟩]
    clear h1 h2 h3 h4
    go_enter Try.func20, Try.ntmps20
    go_wp2
    all_goals go_ret
    all_goals exact ⟨rfl, unhide B1⟩

/-- a row of the call's own, or the one byte of a constant -/
def Row (W : World) (B : Nat) (v : Value) (L : List Nat) : Prop := OwnB W B v L ∨ ∃ g y, v = .slice (some ⟨g, 0, none⟩) 1 1 ∧ L = [y] ∧ W.cell? ⟨g, 0, none⟩ = some (.int .u8 (y : Nat))
theorem Row.below {W W' : World} {B : Nat} {v : Value} {L : List Nat} (h : Row W B v L) (hb : Below W.heap.size W W') : Row W' B v L := by
  rcases h with h | ⟨g, y, rfl, rfl, hc⟩
  · exact .inl (h.below hb)
  · exact .inr ⟨g, y, rfl, rfl, (hb.cell (p := ⟨g, 0, none⟩) (block_lt_of_cell hc)).trans hc⟩
theorem Row.shape {W : World} {B : Nat} {v : Value} {L : List Nat} (h : Row W B v L) : ∃ a c, v = .slice a L.length c ∧ Bytes W a L ∧ (a = none → c = 0) := by
  rcases h with h | ⟨g, y, rfl, rfl, hc⟩
  · obtain ⟨a, c, h1, h2, h3⟩ := h.shape
    exact ⟨a, c, h1, h2, h3⟩
  · exact ⟨_, 1, rfl, .inr ⟨g, 0, rfl, block_lt_of_cell hc, fun i hi => by
      match i, hi with
      | 0, _ => exact hc⟩, fun h => by cases h⟩
theorem run_one_own (w : World) (B g y : Nat) (bb off : Nat) (c : Nat) (m : List Nat) (hg : w.cell? ⟨g, 0, none⟩ = some (.int .u8 (y : Nat))) (hb : bb < w.heap.size) (hc : ∀ j, j < m.length → w.cell? ⟨bb, off + j, none⟩ = some (.int .u8 (m.getD j 0 : Nat))) (h0 : 0 < m.length) (hl : m.length ≤ 1048576) (hB : B ≤ w.heap.size) :
    ∃ v' w', (Builtin.append_ #[22, 22] 22 #[.slice (some ⟨g, 0, none⟩) 1 1, .slice (some ⟨bb, off, none⟩) m.length c]).run Try.prog w = .ok v' w' ∧ OwnB w' B v' ([y] ++ m) ∧ Below w.heap.size w w' := by
  obtain ⟨i0, hi, hz0, hz1, hz2⟩ := info_parts Try.info5
  have hnews : ∀ j u, (cellsOf m)[j]? = some u → w.cell? ((⟨bb, off, none⟩ : Addr).add j) = some u := by
    intro j u hu
    obtain ⟨hj, rfl⟩ := cellsOf_get m j u hu
    rw [add_plain]; exact hc j hj
  have holds : ∀ j u, [Value.int .u8 (y : Nat)][j]? = some u → w.cell? ((⟨g, 0, none⟩ : Addr).add j) = some u := by
    intro j u hu
    match j, hu with
    | 0, hu =>
      rw [add_plain, hg]
      simpa using hu
  have hr := run_append_grow (P := Try.prog) w 22 22 5 i0 (.int .u8 0) Try.underlying22 hi hz0 ⟨g, 0, none⟩ 1 1 [.int .u8 (y : Nat)] (by rw [hz1]; rfl) holds ⟨bb, off, none⟩ m.length c (cellsOf m) (by rw [hz1, cellsOf_length, Nat.mul_one]) hnews (by omega) (by omega) (growslice_fits (by omega) (by rw [hz2]; omega))
  have hge := grownCap_ge w (1 + m.length) 1 5
  have hcm : grownCap w (1 + m.length) 1 5 ≤ maxLen := grownCap_le_maxLen w (1 + m.length) 1 5 (by simp only [maxLen]; omega)
  have e0 : ([y] ++ m).length = 1 + m.length := by simp; omega
  have e1 : cellsOf ([y] ++ m) = [Value.int .u8 (y : Nat)] ++ cellsOf m := by simp [cellsOf]
  refine ⟨_, _, hr, ⟨by rw [e0, e1, List.length_append, cellsOf_length]; simp, .inr ⟨w.heap.size, _, _, by rw [e0], hB, heap_alloc_new w.drew _, by rw [e0]; exact hge, hcm, ?_, ?_⟩⟩, ⟨rfl, rfl, rfl, by simp, fun k hk => Below.heap_alloc w _ k hk⟩⟩
  · simp only [Array.size_append, List.size_toArray, size_zeroCells, cellsOf_length, List.length_singleton, Value.cells]
    simp
    omega
  · rw [e0, e1]
    simp only [Array.toList_append, Nat.mul_one]
    rw [List.append_assoc]
    have e2 : 1 + m.length = ([Value.int .u8 (y : Nat)] ++ cellsOf m).length := by rw [List.length_append, cellsOf_length]; rfl
    rw [← List.append_assoc, e2]
    exact List.take_left
theorem row_type {W : World} {B : Nat} {v : Value} {L : List Nat} (h : OwnB W B v L) (g : Nat) (hg : v.ownBlock = some g) : ∃ c, W.heap[g]? = some (.cells c 5 (0, 0)) := by
  rcases h.2 with ⟨rfl, _⟩ | ⟨g', cap, cur, rfl, _, hg', _⟩
  · simp [Value.ownBlock] at hg
  · simp [Value.ownBlock] at hg
    subst hg
    exact ⟨cur, hg'⟩
theorem wpList_row {w : World} {ops : Array Oper} {rest : List Oper} {o : Oper} {act : Act} {Q : Exit → Act → World → Prop} (hgd : o.guard = none) (s x : Operand)
    (ho : o.op = .call { callee := .builtin .append, args := #[s, x], argTypes := #[22, 22] }) (hty : o.type = 22)
    (B : Nat) (v : Value) (L m : List Nat) (a : Option Addr) (n c : Nat) (hs : act.eval s = v) (hx : act.eval x = .slice a n c) (hO : Row w B v L) (hn : n = m.length) (hM : Bytes w a m) (h0 : 0 < m.length) (hl : m.length ≤ 1048576) (hL : L.length ≤ 200000000000000) (hB : B ≤ w.heap.size)
    (h : ∀ v' w', OwnB w' B v' (L ++ m) → Below B w w' → (∀ (k : Nat) (cs : Array Value) (t : TypeId), t ≠ 5 → w.heap[k]? = some (.cells cs t (0, 0)) → w'.heap[k]? = some (.cells cs t (0, 0))) → wpList Try.prog ops Q rest (act.put o.dst v') w') : wpList Try.prog ops Q (o :: rest) act w := by
  subst hn
  obtain ⟨bb, off, rfl, hb, hc⟩ := hM.at h0
  rcases hO with hO | ⟨g, y, rfl, rfl, hg⟩
  · obtain ⟨i0, hi, hz0, hz1, hz2⟩ := info_parts Try.info5
    have hnews : ∀ j u, (cellsOf m)[j]? = some u → w.cell? ((⟨bb, off, none⟩ : Addr).add j) = some u := by
      intro j u hu
      obtain ⟨hj, rfl⟩ := cellsOf_get m j u hu
      rw [add_plain]; exact hc j hj
    refine wpList_append_own_wide w hgd s x 22 ho B 5 i0 (.int .u8 0) 1 1 Try.underlying22 hi hz0 hz1 hz2 rfl (by decide) v L.length (cellsOf L) hs hO ⟨bb, off, none⟩ m.length c (cellsOf m) hx (by rw [cellsOf_length, Nat.mul_one]) hnews (fun u hu => by unfold cellsOf at hu; obtain ⟨k, _, rfl⟩ := List.mem_map.1 hu; rfl) (by simp only [maxLen]; omega) (by omega) hB ?_
    intro v' w' q1 q2 _
    have e1 : OwnB w' B v' (L ++ m) := by
      unfold OwnB
      rw [List.length_append, show cellsOf (L ++ m) = cellsOf L ++ cellsOf m by simp [cellsOf]]
      exact q1
    have hbel : Below B w w' := (Below.refl B w).grown q2 hB (fun k hk => by
      rcases hO.2 with ⟨rfl, _⟩ | ⟨g', cap, cur, rfl, hgb, _⟩
      · simp [Value.ownBlock] at hk
      · simp [Value.ownBlock] at hk; omega)
    refine h v' w' e1 hbel (fun k cs t ht hk => ?_)
    rw [q2.block k (Array.getElem?_eq_some_iff.1 hk).1 (fun e => ?_)]
    · exact hk
    · obtain ⟨cc, hcc⟩ := row_type hO k e.symm
      rw [hcc] at hk
      cases hk
      exact ht rfl
  · obtain ⟨v', w', h1, h2, h3⟩ := run_one_own w B g y bb off c m hg hb hc h0 hl hB
    exact Lib.wpList_append_run w hgd s x 22 22 ho _ _ hs hx _ _ (by rw [hty]; exact h1) (h v' w' h2 (h3.mono hB) (fun k cs t _ hk => by rw [h3.block k (Array.getElem?_eq_some_iff.1 hk).1]; exact hk))
theorem run_row (w : World) (B : Nat) (v : Value) (L m : List Nat) (a : Option Addr) (n c : Nat) (hO : Row w B v L) (hn : n = m.length) (hM : Bytes w a m) (h0 : 0 < m.length) (hl : m.length ≤ 1048576) (hL : L.length ≤ 200000000000000) (hB : B ≤ w.heap.size) :
    ∃ v' w', (Builtin.append_ #[22, 22] 22 #[v, .slice a n c]).run Try.prog w = .ok v' w' ∧ OwnB w' B v' (L ++ m) ∧ Below B w w' ∧ (∀ (k : Nat) (cs : Array Value) (t : TypeId), t ≠ 5 → w.heap[k]? = some (.cells cs t (0, 0)) → w'.heap[k]? = some (.cells cs t (0, 0))) := by
  subst hn
  obtain ⟨bb, off, rfl, hb, hc⟩ := hM.at h0
  rcases hO with hO | ⟨g, y, rfl, rfl, hg⟩
  · obtain ⟨i0, hi, hz0, hz1, hz2⟩ := info_parts Try.info5
    have hnews : ∀ j u, (cellsOf m)[j]? = some u → w.cell? ((⟨bb, off, none⟩ : Addr).add j) = some u := by
      intro j u hu
      obtain ⟨hj, rfl⟩ := cellsOf_get m j u hu
      rw [add_plain]; exact hc j hj
    obtain ⟨v', w', hr, q1, q2, _⟩ := run_append_own_wide (P := Try.prog) w B 22 22 5 i0 (.int .u8 0) 1 1 Try.underlying22 hi hz0 hz1 hz2 rfl (by decide) v L.length (cellsOf L) hO ⟨bb, off, none⟩ m.length c (cellsOf m) (by rw [cellsOf_length, Nat.mul_one]) hnews (fun u hu => by unfold cellsOf at hu; obtain ⟨k, _, rfl⟩ := List.mem_map.1 hu; rfl) (by simp only [maxLen]; omega) (by omega) hB
    have e1 : OwnB w' B v' (L ++ m) := by
      unfold OwnB
      rw [List.length_append, show cellsOf (L ++ m) = cellsOf L ++ cellsOf m by simp [cellsOf]]
      exact q1
    have hbel : Below B w w' := (Below.refl B w).grown q2 hB (fun k hk => by
      rcases hO.2 with ⟨rfl, _⟩ | ⟨g', cap, cur, rfl, hgb, _⟩
      · simp [Value.ownBlock] at hk
      · simp [Value.ownBlock] at hk; omega)
    refine ⟨v', w', hr, e1, hbel, fun k cs t ht hk => ?_⟩
    rw [q2.block k (Array.getElem?_eq_some_iff.1 hk).1 (fun e => ?_)]
    · exact hk
    · obtain ⟨cc, hcc⟩ := row_type hO k e.symm
      rw [hcc] at hk
      cases hk
      exact ht rfl
  · obtain ⟨v', w', h1, h2, h3⟩ := run_one_own w B g y bb off c m hg hb hc h0 hl hB
    exact ⟨v', w', h1, h2, h3.mono hB, fun k cs t _ hk => by rw [h3.block k (Array.getElem?_eq_some_iff.1 hk).1]; exact hk⟩
theorem wp_row {w : World} {o : Oper} {act : Act} {K : Act → World → Prop} {Q : Exit → Act → World → Prop} (s x : Operand)
    (ho : o.op = .call { callee := .builtin .append, args := #[s, x], argTypes := #[22, 22] }) (hty : o.type = 22)
    (B : Nat) (v : Value) (L m : List Nat) (a : Option Addr) (n c : Nat) (hs : act.eval s = v) (hx : act.eval x = .slice a n c) (hO : Row w B v L) (hn : n = m.length) (hM : Bytes w a m) (h0 : 0 < m.length) (hl : m.length ≤ 1048576) (hL : L.length ≤ 200000000000000) (hB : B ≤ w.heap.size)
    (h : ∀ v' w', OwnB w' B v' (L ++ m) → Below B w w' → (∀ (k : Nat) (cs : Array Value) (t : TypeId), t ≠ 5 → w.heap[k]? = some (.cells cs t (0, 0)) → w'.heap[k]? = some (.cells cs t (0, 0))) → K (act.put o.dst v') w') : o.wp Try.prog act w K Q := by
  obtain ⟨v', w', hr, h2, h3, h4⟩ := run_row w B v L m a n c hO hn hM h0 hl hL hB
  unfold Oper.wp execOp
  simp only [ho, hty, resolve, invoke, builtin, Sem.run_bind, Sem.run_pure, Result.andThen_ok, List.map_toArray, List.map_cons, List.map_nil, hs, hx, hr]
  exact h v' w' h2 h3 h4
theorem step_row {w : World} {ops : Array Oper} {o : Oper} {act : Act} {K : Act → World → Prop} {Q : Exit → Act → World → Prop} {E : Prop} (hg : o.guard = none) (s x : Operand)
    (ho : o.op = .call { callee := .builtin .append, args := #[s, x], argTypes := #[22, 22] }) (hty : o.type = 22)
    (B : Nat) (v : Value) (L m : List Nat) (a : Option Addr) (n c : Nat) (hs : act.eval s = v) (hx : act.eval x = .slice a n c) (hO : Row w B v L) (hn : n = m.length) (hM : Bytes w a m) (h0 : 0 < m.length) (hl : m.length ≤ 1048576) (hL : L.length ≤ 200000000000000) (hB : B ≤ w.heap.size)
    (h : ∀ v' w', OwnB w' B v' (L ++ m) → Below B w w' → (∀ (k : Nat) (cs : Array Value) (t : TypeId), t ≠ 5 → w.heap[k]? = some (.cells cs t (0, 0)) → w'.heap[k]? = some (.cells cs t (0, 0))) → K (act.put o.dst v') w') : if Region.wanted o (yielded ops act.tmps) = true then Oper.wp Try.prog o act w K Q else E := by
  have hw : Region.wanted o (yielded ops act.tmps) = true := by simp [Region.wanted, hg]
  rw [if_pos hw]
  exact wp_row s x ho hty B v L m a n c hs hx hO hn hM h0 hl hL hB h
end Go.Proofs.Ytidfbelckdlbhaa
