/- Lists whose memory begins a block: reading, writing, appending. -/
import Derived.Test.YtfgemcmiilbodaaDoorSame
import Derived.OwnWalk
import Derived.Deep.QuietTactic
import Derived.BigQuiet
import Derived.WalkSmall
import Derived.Laws.IdiomCopy
import Derived.Deep.Light
namespace Go.Proofs.YtfgemcmiilbodaaDoor.Bk
open Go.ChangeShapes Go.WideShapes Go.ChangeAt Go.RowKit
set_option linter.unusedVariables false
set_option maxRecDepth 100000
set_option maxHeartbeats 2000000

def lenOf : Value → Nat
  | .slice _ n _ => n
  | _ => 0
theorem wp_appended {P : Program} {w : World} {o : Oper} {a : Act} {K : Act → World → Prop} {Q : Exit → Act → World → Prop} (s x : Operand) (t : TypeId) (ho : o.op = .call { callee := .builtin .append, args := #[s, x], argTypes := #[t, t] }) (v vx : Value) (hs : a.eval s = v) (hx : a.eval x = vx) (v' : Value) (w' : World) (hr : (Builtin.append_ #[t, t] o.type #[v, vx]).run P w = .ok v' w') (h : K (a.put o.dst v') w') : o.wp P a w K Q := by
  unfold Oper.wp execOp
  simp only [ho, resolve, invoke, builtin, Sem.run_bind, Sem.run_pure, Result.andThen_ok, List.map_toArray, List.map_cons, List.map_nil, hs, hx, hr]
  exact h
/-- a slice whose memory begins a block (or that is nil); its n elements are f 0, f 1, .. -/
def Line (w : World) (e : TypeId) (v : Value) (n : Nat) (f : Nat → Value) : Prop :=
  (v = .slice none 0 0 ∧ n = 0) ∨ ∃ g cap cur, v = .slice (some ⟨g, 0, none⟩) n cap ∧ w.heap[g]? = some (.cells cur e (0, 0)) ∧ n ≤ cap ∧ cap ≤ maxLen ∧ cur.size = cap ∧ ∀ j, j < n → cur[j]? = some (f j)
theorem Line.same {w w' : World} {e : TypeId} {v : Value} {n : Nat} {f : Nat → Value} (h : Line w e v n f) (hb : ∀ g, v.ownBlock = some g → w'.heap[g]? = w.heap[g]?) : Line w' e v n f := by
  rcases h with h | ⟨g, cap, cur, rfl, hg, r⟩
  · exact .inl h
  · exact .inr ⟨g, cap, cur, rfl, by rw [hb g rfl]; exact hg, r⟩
theorem Line.lt {w : World} {e : TypeId} {v : Value} {n : Nat} {f : Nat → Value} (h : Line w e v n f) : ∀ g, v.ownBlock = some g → g < w.heap.size := by
  intro k hk
  rcases h with ⟨rfl, _⟩ | ⟨g, cap, cur, rfl, hg, r⟩
  · simp [Value.ownBlock] at hk
  · simp [Value.ownBlock] at hk
    subst hk
    exact (Array.getElem?_eq_some_iff.1 hg).1
theorem Line.shape {w : World} {e : TypeId} {v : Value} {n : Nat} {f : Nat → Value} (h : Line w e v n f) : ∃ a cap, v = .slice a n cap := by
  rcases h with ⟨rfl, h0⟩ | ⟨g, cap, cur, rfl, hg, r⟩
  · exact ⟨none, 0, by rw [h0]⟩
  · exact ⟨_, cap, rfl⟩
/-- where the elements lie -/
theorem Line.at {w : World} {e : TypeId} {v : Value} {n : Nat} {f : Nat → Value} (h : Line w e v n f) (hn : 0 < n) : ∃ g cap, v = .slice (some ⟨g, 0, none⟩) n cap ∧ v.ownBlock = some g ∧ ∀ j, j < n → w.cell? ⟨g, j, none⟩ = some (f j) ∧ w.frozen? ⟨g, j, none⟩ = false := by
  rcases h with ⟨rfl, h0⟩ | ⟨g, cap, cur, rfl, hg, hn, hc, hs, hf⟩
  · omega
  · refine ⟨g, cap, rfl, rfl, fun j hj => ⟨?_, ?_⟩⟩
    · simp only [World.cell?, hg]
      exact hf j hj
    · simp only [World.frozen?, hg]
      simp
theorem Line.congr {w : World} {e : TypeId} {v : Value} {n : Nat} {f f' : Nat → Value} (h : Line w e v n f) (hf : ∀ j, j < n → f j = f' j) : Line w e v n f' := by
  rcases h with h | ⟨g, cap, cur, rfl, hg, hn, hc, hs, hh⟩
  · exact .inl h
  · exact .inr ⟨g, cap, cur, rfl, hg, hn, hc, hs, fun j hj => by rw [hh j hj, hf j hj]⟩
theorem setCell_block (w : World) (g k : Nat) (u : Value) (cur : Array Value) (e : TypeId) (fr : Nat × Nat) (hg : w.heap[g]? = some (.cells cur e fr)) : (w.setCell ⟨g, k, none⟩ u).heap[g]? = some (.cells (cur.setIfInBounds k u) e fr) := by
  simp only [World.setCell, Array.getElem?_modify, if_true, hg, Option.map_some]
  rfl
theorem setCell_else (w : World) (g k j : Nat) (u : Value) (h : j ≠ g) : (w.setCell ⟨g, k, none⟩ u).heap[j]? = w.heap[j]? := by
  simp [World.setCell, Array.getElem?_modify, Ne.symm h]
theorem Line.put {w : World} {e : TypeId} {v : Value} {n : Nat} {f : Nat → Value} (h : Line w e v n f) {g : Nat} (hg : v.ownBlock = some g) (k : Nat) (u : Value) (hk : k < n) : Line (w.setCell ⟨g, k, none⟩ u) e v n (fun j => if j = k then u else f j) := by
  rcases h with ⟨rfl, h0⟩ | ⟨g', cap, cur, rfl, hg', hn, hc, hs, hh⟩
  · omega
  · simp [Value.ownBlock] at hg
    subst hg
    refine .inr ⟨g', cap, cur.setIfInBounds k u, rfl, setCell_block w g' k u cur e _ hg', hn, hc, by simpa using hs, fun j hj => ?_⟩
    rw [Array.getElem?_setIfInBounds]
    show _ = some (if j = k then u else f j)
    by_cases e1 : k = j
    · subst e1
      rw [if_pos rfl, if_pos (by omega), if_pos rfl]
    · rw [if_neg e1, if_neg (fun h => e1 h.symm), hh j hj]
theorem line_of_own {w : World} {base : Nat} {e : TypeId} {v : Value} {n : Nat} {xs : List Value} (h : w.ownsRow base e 1 v n xs) : Line w e v n (fun j => xs.getD j undef) ∧ ∀ g, v.ownBlock = some g → base ≤ g := by
  have hx := h.1
  rcases h.2 with ⟨rfl, h0⟩ | ⟨g, cap, cur, rfl, hb, hg, hn, hm, hs, ht⟩
  · exact ⟨.inl ⟨rfl, h0⟩, fun g hg => by simp [Value.ownBlock] at hg⟩
  · refine ⟨.inr ⟨g, cap, cur, rfl, hg, hn, hm, by omega, fun j hj => ?_⟩, fun k hk => by simp [Value.ownBlock] at hk; omega⟩
    have h1 : xs[j]? = cur[j]? := by
      rw [← ht, List.getElem?_take, if_pos (by omega)]
      simp
    show _ = some (xs.getD j undef)
    rw [← h1, List.getD_eq_getElem?_getD, List.getElem?_eq_getElem (by omega)]
    rfl
/-- what an append of one element changed -/
structure Grew (e : TypeId) (n : Nat) (u : Value) (w w' : World) (v v' : Value) : Prop where
  os : w'.os = w.os
  tape : w'.tape = w.tape
  output : w'.output = w.output
  how : (∃ g cur, v.ownBlock = some g ∧ v'.ownBlock = some g ∧ w.heap[g]? = some (.cells cur e (0, 0)) ∧ (∃ cur', w'.heap[g]? = some (.cells cur' e (0, 0)) ∧ cur'.size = cur.size ∧ cur'[n]? = some u ∧ ∀ j, j ≠ n → cur'[j]? = cur[j]?) ∧ w'.heap.size = w.heap.size ∧ ∀ k, k ≠ g → w'.heap[k]? = w.heap[k]?) ∨
    (v'.ownBlock = some w.heap.size ∧ w'.heap.size = w.heap.size + 1 ∧ ∀ k, k < w.heap.size → w'.heap[k]? = w.heap[k]?)
theorem Grew.size {e : TypeId} {n : Nat} {u : Value} {w w' : World} {v v' : Value} (h : Grew e n u w w' v v') : w.heap.size ≤ w'.heap.size := by
  rcases h.how with ⟨g, cur, _, _, _, _, hs, _⟩ | ⟨_, hs, _⟩ <;> omega
theorem Grew.other {e : TypeId} {n : Nat} {u : Value} {w w' : World} {v v' : Value} (h : Grew e n u w w' v v') (k : Nat) (hk : k < w.heap.size) (hv : v.ownBlock ≠ some k) : w'.heap[k]? = w.heap[k]? := by
  rcases h.how with ⟨g, cur, h1, _, _, _, _, hb⟩ | ⟨_, _, hb⟩
  · exact hb k (fun e => hv (by rw [h1, e]))
  · exact hb k hk
/-- another list, that may lie in the same memory if it agrees -/
theorem Grew.line {e e2 : TypeId} {n n2 : Nat} {u : Value} {w w' : World} {v v' v2 : Value} {f2 : Nat → Value} (h : Grew e n u w w' v v') (h2 : Line w e2 v2 n2 f2) (hs : v2.ownBlock = v.ownBlock → n < n2 → f2 n = u) : Line w' e2 v2 n2 f2 := by
  rcases h2 with h2 | ⟨g2, cap, cur2, rfl, hg2, hn, hc, hz, hh⟩
  · exact .inl h2
  · have hlt := (Array.getElem?_eq_some_iff.1 hg2).1
    rcases h.how with ⟨g, cur, h1, _, hcur, ⟨cur', hw', hsz, hat, hoth⟩, _, hb⟩ | ⟨_, _, hb⟩
    · by_cases eg : g2 = g
      · subst eg
        rw [hcur] at hg2
        cases hg2
        refine .inr ⟨g2, cap, cur', rfl, hw', hn, hc, by omega, fun j hj => ?_⟩
        by_cases ej : j = n
        · subst ej
          rw [hat, hs h1.symm hj]
        · rw [hoth j ej, hh j hj]
      · exact .inr ⟨g2, cap, cur2, rfl, by rw [hb g2 eg]; exact hg2, hn, hc, hz, hh⟩
    · exact .inr ⟨g2, cap, cur2, rfl, by rw [hb g2 hlt]; exact hg2, hn, hc, hz, hh⟩
theorem append_line {P : Program} {w : World} {ops : Array Oper} {rest : List Oper} {o : Oper} {a : Act} {Q : Exit → Act → World → Prop} (hgd : o.guard = none) (s x : Operand) (t : TypeId) (ho : o.op = .call { callee := .builtin .append, args := #[s, x], argTypes := #[t, t] })
    (e : TypeId) (i : TypeInfo) (z : Value) (bytes : Nat) (ht : P.underlying t = some (.slice e)) (hi : P.info? e = some i) (hz : i.zero = some z) (hsize : i.size = 1) (hby : i.bytes = bytes) (hzs : z.cells.size = 1)
    (v : Value) (n : Nat) (f : Nat → Value) (hs : a.eval s = v) (hown : Line w e v n f) (b : Nat) (hx : a.eval x = .slice (some ⟨b, 0, none⟩) 1 1) (u : Value) (hc : w.cell? ⟨b, 0, none⟩ = some u) (h1 : u.oneCell' = true) (hn : (n + 1) * bytes ≤ 140737488355328) (hn2 : n + 1 ≤ 9007199254740992)
    (h : ∀ v' w', Line w' e v' (n + 1) (fun j => if j < n then f j else u) → Grew e n u w w' v v' → wpList P ops Q rest (a.put o.dst v') w') : wpList P ops Q (o :: rest) a w := by
  have hnews : ∀ j x, [u][j]? = some x → w.cell? ((⟨b, 0, none⟩ : Addr).add j) = some x := by
    intro j x hj
    match j, hj with
    | 0, hj => simp at hj; subst hj; simpa [Addr.add] using hc
  have h1' : ∀ x ∈ [u], x.oneCell' = true := by intro x hx; simp at hx; subst hx; exact h1
  refine wpList_plain hgd fun _ hK => ?_
  have hml : n + 1 ≤ maxLen := by simp only [maxLen]; omega
  rcases hown with ⟨rfl, rfl⟩ | ⟨g, cap, cur, rfl, hg, hnc, hcm, hcs, hf⟩
  · have hr := run_append_nil (P := P) w t o.type e i z ht hi hz ⟨b, 0, none⟩ 1 1 [u] (by rw [hsize]; rfl) hnews (by omega) (by omega) (by rw [hby]; omega)
    have hge := grownCap_ge w 1 0 e
    have hcm2 : grownCap w 1 0 e ≤ maxLen := grownCap_le_maxLen w 1 0 e hml
    refine wp_appended s x t ho _ _ hs hx _ _ hr (hK _ _ (h _ _ (.inr ⟨w.heap.size, _, _, rfl, heap_alloc_new w.drew _, hge, hcm2, ?_, fun j hj => ?_⟩) ⟨rfl, rfl, rfl, .inr ⟨rfl, by simp, fun k hk => heap_alloc_old w.drew _ hk⟩⟩))
    · simp only [Array.size_append, List.size_toArray, size_zeroCells, hzs, List.length_singleton]
      omega
    · have : j = 0 := by omega
      subst this
      show _ = some (if 0 < 0 then f 0 else u)
      rw [if_neg (by omega), Array.getElem?_append_left (by simp)]
      rfl
  · by_cases hroom : n + 1 ≤ cap
    · have hr := run_append_room (P := P) w t o.type e i ht hi g n cap cur hg ⟨b, 0, none⟩ 1 1 [u] (by rw [hsize]; rfl) hnews h1' hroom (by rw [hsize]; simp; omega)
      rw [hsize] at hr
      have hcur : ∀ j, (cur.toList.take (n * 1) ++ [u] ++ cur.toList.drop (n * 1 + [u].length)).toArray[j]? = if j = n then some u else cur[j]? := by
        intro j
        rw [List.getElem?_toArray, Nat.mul_one, List.append_assoc]
        by_cases hlt : j < n
        · rw [List.getElem?_append_left (by simp; omega), List.getElem?_take, if_pos hlt, if_neg (by omega)]
          simp
        · rw [List.getElem?_append_right (by simp; omega)]
          have hl : (cur.toList.take n).length = n := by simp; omega
          rw [hl]
          by_cases e1 : j = n
          · subst e1; rw [if_pos rfl]; simp
          · rw [if_neg e1]
            obtain ⟨d, rfl⟩ : ∃ d, j = n + 1 + d := ⟨j - n - 1, by omega⟩
            rw [show n + 1 + d - n = d + 1 by omega]
            simp [List.getElem?_drop]
      have hsz : (cur.toList.take (n * 1) ++ [u] ++ cur.toList.drop (n * 1 + [u].length)).toArray.size = cur.size := by
        simp only [List.size_toArray, List.length_append, List.length_take, List.length_drop, Array.length_toList, List.length_singleton]
        omega
      have hblk := setRow_heap w g cur (cur.toList.take (n * 1) ++ [u] ++ cur.toList.drop (n * 1 + [u].length)).toArray e _ hg
      generalize (cur.toList.take (n * 1) ++ [u] ++ cur.toList.drop (n * 1 + [u].length)).toArray = cur' at *
      refine wp_appended s x t ho _ _ hs hx _ _ hr (hK _ _ (h _ _ (.inr ⟨g, cap, cur', rfl, hblk, hroom, hcm, by omega, fun j hj => ?_⟩) ⟨rfl, rfl, rfl, .inl ⟨g, cur, rfl, rfl, hg, ⟨cur', hblk, hsz, by rw [hcur, if_pos rfl], fun j hj => by rw [hcur, if_neg hj]⟩, by simp [World.setRow], fun k hk => setRow_other w g k _ hk⟩⟩))
      rw [hcur]
      show _ = some (if j < n then f j else u)
      by_cases e1 : j = n
      · subst e1; rw [if_pos rfl, if_neg (by omega)]
      · rw [if_neg e1, if_pos (by omega), hf j (by omega)]
    · have hcl : cap = n := by omega
      subst hcl
      have hol : (cur.toList.take cap).length = cap := by simp; omega
      have holds : ∀ j x, (cur.toList.take cap)[j]? = some x → w.cell? ((⟨g, 0, none⟩ : Addr).add j) = some x := by
        intro j x hj
        have hadd : (⟨g, 0, none⟩ : Addr).add j = ⟨g, j, none⟩ := by unfold Addr.add; split <;> simp_all
        rw [hadd]
        simp only [World.cell?, hg]
        rw [List.getElem?_take] at hj
        split at hj
        · simpa using hj
        · cases hj
      have hr := run_append_grow (P := P) w t o.type e i z ht hi hz ⟨g, 0, none⟩ cap cap (cur.toList.take cap) (by rw [hsize]; omega) holds ⟨b, 0, none⟩ 1 1 [u] (by rw [hsize]; rfl) hnews (by omega) (by omega) (by rw [hby]; exact growslice_fits (by omega) hn)
      have hge := grownCap_ge w (cap + 1) cap e
      have hcm2 : grownCap w (cap + 1) cap e ≤ maxLen := grownCap_le_maxLen w (cap + 1) cap e hml
      refine wp_appended s x t ho _ _ hs hx _ _ hr (hK _ _ (h _ _ (.inr ⟨w.heap.size, _, _, rfl, heap_alloc_new w.drew _, hge, hcm2, ?_, fun j hj => ?_⟩) ⟨rfl, rfl, rfl, .inr ⟨rfl, by simp, fun k hk => heap_alloc_old w.drew _ hk⟩⟩))
      · simp only [Array.size_append, List.size_toArray, size_zeroCells, hzs, hol, List.length_singleton]
        omega
      · rw [Array.getElem?_append_left (by simp; omega)]
        show _ = some (if j < cap then f j else u)
        by_cases e1 : j < cap
        · rw [if_pos e1, ← hf j e1, Array.getElem?_append_left (by simp; omega), List.getElem?_toArray, List.getElem?_take, if_pos e1]
          simp
        · have : j = cap := by omega
          subst this
          rw [if_neg (by omega), Array.getElem?_append_right (by simp; omega)]
          simp [hol]
end Go.Proofs.YtfgemcmiilbodaaDoor.Bk
