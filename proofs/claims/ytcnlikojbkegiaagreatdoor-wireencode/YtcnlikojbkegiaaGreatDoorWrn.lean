/- Texts behind a list of bytes, which may be nil. -/
import Derived.Test.YtcnlikojbkegiaaGreatDoorWrf
import Derived.Test.YtcnlikojbkegiaaGreatDoorAdr
import Derived.Test.YtcnlikojbkegiaaGreatDoorPld
namespace Go.Proofs.YtcnlikojbkegiaaGreatDoor
open Go.ChangeShapes Go.WideShapes Go.ChangeAt Go.RowKit
set_option linter.unusedVariables false
set_option linter.unusedSimpArgs false
set_option maxRecDepth 20000
set_option maxHeartbeats 4000000

def RwN (w : World) (v : Value) (n : Nat) (l : List Nat) : Prop := (v = .slice none 0 0 ∧ n = 0 ∧ l = []) ∨ RwF w v n l
theorem RwN.below {w w' : World} {v : Value} {n : Nat} {l : List Nat} (h : RwN w v n l) (hb : Below w.heap.size w w') : RwN w' v n l := h.imp id (fun h => h.below hb)
theorem RwN.lt {w : World} {v : Value} {n : Nat} {l : List Nat} (h : RwN w v n l) : ∀ g, v.ownBlock = some g → g < w.heap.size := by
  intro g hg
  rcases h with ⟨rfl, _⟩ | ⟨g', cap, cur, fz, rfl, h2, _⟩
  · simp [Value.ownBlock] at hg
  · obtain rfl : g' = g := by simpa [Value.ownBlock] using hg
    exact block_lt h2
theorem RwN.len {w : World} {v : Value} {n : Nat} {l : List Nat} (h : RwN w v n l) : n = l.length := by
  rcases h with ⟨_, rfl, rfl⟩ | h
  · rfl
  · exact h.len
theorem run_app_n (w : World) (v : Value) (n : Nat) (l m : List Nat) (h : RwN w v n l) (hm : Small m) (h0 : 0 < m.length) (hl : n + m.length ≤ 140737488355328) :
    ∃ v' w', (Builtin.append_ #[25, 9] 25 #[v, .string (sB m)]).run Tryz.prog w = .ok v' w' ∧ RwF w' v' (n + m.length) (l ++ m) ∧ Gw w w' v v' := by
  rcases h with ⟨rfl, rfl, rfl⟩ | h
  · obtain ⟨i5, hi5, hz5, hs5, hb5⟩ := info_partsS Tryz.info5s
    have hz := sB_size m
    have hr := run_append_nil_string (P := Tryz.prog) w 25 9 25 5 i5 (.int .u8 0) Tryz.underlying25 Tryz.underlying9 hi5 hz5 (sB m) (by omega) (by omega) (by rw [hb5, hz]; omega)
    rw [hz] at hr
    have hge := grownCap_ge w m.length 0 5
    have hcl : (Lib.strCells (sB m)).length = m.length := by rw [Lib.strCells_length, hz]
    have hlast := heap_alloc_new w.drew (.cells ((sB m).data.map (fun b => Value.int .u8 b.toNat) ++ Builtin.zeroCells (Value.int .u8 0).cells (grownCap w m.length 0 5 - m.length)) 5)
    have zc : ∀ j, (Builtin.zeroCells (Value.int .u8 0).cells j).size = j := fun j => by simp [Builtin.zeroCells, Value.cells]
    have hds : (sB m).data.size = m.length := hz
    refine ⟨_, _, hr, ⟨w.heap.size, _, _, (0, 0), by rw [Nat.zero_add], hlast, by rw [Nat.zero_add]; exact hge, ?_, grownCap_le_maxLen w m.length 0 5 (by simp only [maxLen]; omega), fun k hk => by simp, by simp, fun k hk => ?_⟩, ⟨rfl, rfl, rfl, by simp, fun k hk _ => Below.heap_alloc w.drew _ k hk, fun q hq => .inr (by simp [Value.ownBlock] at hq; omega)⟩⟩
    · simp only [Array.size_append, Array.size_map, zc, hds]
      omega
    · rw [Nat.zero_add] at hk
      rw [Array.getElem?_append, if_pos (by rw [Array.size_map, hds]; exact hk), List.nil_append, ← strCells_sB m hm k hk]
      unfold Lib.strCells
      simp
  · exact run_app_text w v n l m h hm hl
theorem app_n {w : World} {ops : Array Oper} {rest : List Oper} {o : Oper} {act : Act} {Q : Exit → Act → World → Prop} (hgd : o.guard = none) (so x : Operand) (ho : o.op = .call { callee := .builtin .append, args := #[so, x], argTypes := #[25, 9] }) (hty : o.type = 25)
    (v : Value) (n : Nat) (l m : List Nat) (hs : act.eval so = v) (h : RwN w v n l) (hx : act.eval x = .string (sB m)) (hm : Small m) (h0 : 0 < m.length) (hl : n + m.length ≤ 140737488355328)
    (hk : ∀ v' w', RwF w' v' (n + m.length) (l ++ m) → Gw w w' v v' → wpList Tryz.prog ops Q rest (act.put o.dst v') w') : wpList Tryz.prog ops Q (o :: rest) act w := by
  obtain ⟨v', w', h1, h2, h3⟩ := run_app_n w v n l m h hm h0 hl
  refine wpList_plain hgd fun K hK => ?_
  unfold Oper.wp execOp
  simp only [ho, resolve, invoke, builtin, Sem.run_bind, Sem.run_pure, Result.andThen_ok, List.map_toArray, List.map_cons, List.map_nil, hs, hx, hty, h1]
  exact hK _ _ (hk v' w' h2 h3)
/-- the list that grows, and what is as it was in W1 -/
structure Gn (w0 W1 : World) (V : Value) (W : World) (v : Value) (n : Nat) (l : List Nat) : Prop where
  bel : Below w0.heap.size w0 W
  row : RwN W v n l
  own : ∀ g, v.ownBlock = some g → w0.heap.size ≤ g
  gw : Gw W1 W V v
theorem Gn.below {w0 W1 W W' : World} {V v : Value} {n : Nat} {l : List Nat} (h : Gn w0 W1 V W v n l) (hb : Below W.heap.size W W') : Gn w0 W1 V W' v n l := ⟨h.bel.trans (hb.mono h.bel.size), h.row.below hb, h.own, h.gw.below hb⟩
theorem Gn.app {w0 W1 W w' : World} {V v v' : Value} {n n' : Nat} {l l' : List Nat} (h : Gn w0 W1 V W v n l) (hR : RwF w' v' n' l') (hG : Gw W w' v v') : Gn w0 W1 V w' v' n' l' := by
  refine ⟨h.bel.trans ⟨hG.os, hG.tape, hG.output, hG.size, fun b hb => hG.oth b (Nat.lt_of_lt_of_le hb h.bel.size) (fun e => by have := h.own b e; omega)⟩, .inr hR, fun g hg => ?_, h.gw.trans hG⟩
  rcases hG.own g hg with q | q
  · exact h.own g q
  · exact Nat.le_trans h.bel.size q
end Go.Proofs.YtcnlikojbkegiaaGreatDoor
