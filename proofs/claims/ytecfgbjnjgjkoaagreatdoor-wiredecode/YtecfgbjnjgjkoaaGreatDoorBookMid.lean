/- A book in the midst of a call. -/
import Derived.Test.YtecfgbjnjgjkoaaGreatDoorSame
import Derived.OwnWalk
import Derived.Deep.QuietTactic
import Derived.BigQuiet
import Derived.WalkSmall
import Derived.Laws.IdiomCopy
import Derived.Deep.Light
namespace Go.Proofs.YtecfgbjnjgjkoaaGreatDoor.Bk
open Go.ChangeShapes Go.WideShapes Go.ChangeAt Go.RowKit
set_option linter.unusedVariables false
set_option maxRecDepth 100000
set_option maxHeartbeats 2000000

def lenOf : Value → Nat
  | .slice _ n _ => n
  | _ => 0
theorem wp_appended {P : Program} {w : World} {o : Oper} {a : Act} {K : Act → World → Prop} {Q : Exit → Act → World → Prop} (s x : Operand) (t : TypeId) (ho : o.op = .call { callee := .builtin .append, args := #[s, x], argTypes := #[t, t] }) (v vx : Value) (hs : a.eval s = v) (hx : a.eval x = vx) (v' : Value) (w' : World) (hr : (Builtin.append_ #[t, t] o.type #[v, vx]).run P w = .ok v' w') (h : K (a.put o.dst v') w') : o.wp P a w K Q := by
  unfold Oper.wp execOp
  simp only [ho, resolve, invoke, builtin, Sem.run_bind, Sem.run_pure, Result.andThen_ok, List.map_toArray, List.map_cons, List.map_nil, hs, hx, hr]
  exact h
/-- a slice whose memory begins a block (or that is nil); its n elements are f 0, f 1, .. -/
def Line (w : World) (e : TypeId) (v : Value) (n : Nat) (f : Nat → Value) : Prop :=
  (v = .slice none 0 0 ∧ n = 0) ∨ ∃ g cap cur, v = .slice (some ⟨g, 0, none⟩) n cap ∧ w.heap[g]? = some (.cells cur e (0, 0)) ∧ n ≤ cap ∧ cap ≤ maxLen ∧ cur.size = cap ∧ ∀ j, j < n → cur[j]? = some (f j)
theorem Line.same {w w' : World} {e : TypeId} {v : Value} {n : Nat} {f : Nat → Value} (h : Line w e v n f) (hb : ∀ g, v.ownBlock = some g → w'.heap[g]? = w.heap[g]?) : Line w' e v n f := by
  rcases h with h | ⟨g, cap, cur, rfl, hg, r⟩
  · exact .inl h
  · exact .inr ⟨g, cap, cur, rfl, by rw [hb g rfl]; exact hg, r⟩
theorem Line.lt {w : World} {e : TypeId} {v : Value} {n : Nat} {f : Nat → Value} (h : Line w e v n f) : ∀ g, v.ownBlock = some g → g < w.heap.size := by
  intro k hk
  rcases h with ⟨rfl, _⟩ | ⟨g, cap, cur, rfl, hg, r⟩
  · simp [Value.ownBlock] at hk
  · simp [Value.ownBlock] at hk
    subst hk
    exact (Array.getElem?_eq_some_iff.1 hg).1
theorem Line.shape {w : World} {e : TypeId} {v : Value} {n : Nat} {f : Nat → Value} (h : Line w e v n f) : ∃ a cap, v = .slice a n cap := by
  rcases h with ⟨rfl, h0⟩ | ⟨g, cap, cur, rfl, hg, r⟩
  · exact ⟨none, 0, by rw [h0]⟩
  · exact ⟨_, cap, rfl⟩
/-- where the elements lie -/
theorem Line.at {w : World} {e : TypeId} {v : Value} {n : Nat} {f : Nat → Value} (h : Line w e v n f) (hn : 0 < n) : ∃ g cap, v = .slice (some ⟨g, 0, none⟩) n cap ∧ v.ownBlock = some g ∧ ∀ j, j < n → w.cell? ⟨g, j, none⟩ = some (f j) ∧ w.frozen? ⟨g, j, none⟩ = false := by
  rcases h with ⟨rfl, h0⟩ | ⟨g, cap, cur, rfl, hg, hn, hc, hs, hf⟩
  · omega
  · refine ⟨g, cap, rfl, rfl, fun j hj => ⟨?_, ?_⟩⟩
    · simp only [World.cell?, hg]
      exact hf j hj
    · simp only [World.frozen?, hg]
      simp
theorem Line.congr {w : World} {e : TypeId} {v : Value} {n : Nat} {f f' : Nat → Value} (h : Line w e v n f) (hf : ∀ j, j < n → f j = f' j) : Line w e v n f' := by
  rcases h with h | ⟨g, cap, cur, rfl, hg, hn, hc, hs, hh⟩
  · exact .inl h
  · exact .inr ⟨g, cap, cur, rfl, hg, hn, hc, hs, fun j hj => by rw [hh j hj, hf j hj]⟩
theorem setCell_block (w : World) (g k : Nat) (u : Value) (cur : Array Value) (e : TypeId) (fr : Nat × Nat) (hg : w.heap[g]? = some (.cells cur e fr)) : (w.setCell ⟨g, k, none⟩ u).heap[g]? = some (.cells (cur.setIfInBounds k u) e fr) := by
  simp only [World.setCell, Array.getElem?_modify, if_true, hg, Option.map_some]
  rfl
theorem setCell_else (w : World) (g k j : Nat) (u : Value) (h : j ≠ g) : (w.setCell ⟨g, k, none⟩ u).heap[j]? = w.heap[j]? := by
  simp [World.setCell, Array.getElem?_modify, Ne.symm h]
theorem Line.put {w : World} {e : TypeId} {v : Value} {n : Nat} {f : Nat → Value} (h : Line w e v n f) {g : Nat} (hg : v.ownBlock = some g) (k : Nat) (u : Value) (hk : k < n) : Line (w.setCell ⟨g, k, none⟩ u) e v n (fun j => if j = k then u else f j) := by
  rcases h with ⟨rfl, h0⟩ | ⟨g', cap, cur, rfl, hg', hn, hc, hs, hh⟩
  · omega
  · simp [Value.ownBlock] at hg
    subst hg
    refine .inr ⟨g', cap, cur.setIfInBounds k u, rfl, setCell_block w g' k u cur e _ hg', hn, hc, by simpa using hs, fun j hj => ?_⟩
    rw [Array.getElem?_setIfInBounds]
    show _ = some (if j = k then u else f j)
    by_cases e1 : k = j
    · subst e1
      rw [if_pos rfl, if_pos (by omega), if_pos rfl]
    · rw [if_neg e1, if_neg (fun h => e1 h.symm), hh j hj]
theorem line_of_own {w : World} {base : Nat} {e : TypeId} {v : Value} {n : Nat} {xs : List Value} (h : w.ownsRow base e 1 v n xs) : Line w e v n (fun j => xs.getD j undef) ∧ ∀ g, v.ownBlock = some g → base ≤ g := by
  have hx := h.1
  rcases h.2 with ⟨rfl, h0⟩ | ⟨g, cap, cur, rfl, hb, hg, hn, hm, hs, ht⟩
  · exact ⟨.inl ⟨rfl, h0⟩, fun g hg => by simp [Value.ownBlock] at hg⟩
  · refine ⟨.inr ⟨g, cap, cur, rfl, hg, hn, hm, by omega, fun j hj => ?_⟩, fun k hk => by simp [Value.ownBlock] at hk; omega⟩
    have h1 : xs[j]? = cur[j]? := by
      rw [← ht, List.getElem?_take, if_pos (by omega)]
      simp
    show _ = some (xs.getD j undef)
    rw [← h1, List.getD_eq_getElem?_getD, List.getElem?_eq_getElem (by omega)]
    rfl
/-- what an append of one element changed -/
structure Grew (e : TypeId) (n : Nat) (u : Value) (w w' : World) (v v' : Value) : Prop where
  os : w'.os = w.os
  tape : w'.tape = w.tape
  output : w'.output = w.output
  how : (∃ g cur, v.ownBlock = some g ∧ v'.ownBlock = some g ∧ w.heap[g]? = some (.cells cur e (0, 0)) ∧ (∃ cur', w'.heap[g]? = some (.cells cur' e (0, 0)) ∧ cur'.size = cur.size ∧ cur'[n]? = some u ∧ ∀ j, j ≠ n → cur'[j]? = cur[j]?) ∧ w'.heap.size = w.heap.size ∧ ∀ k, k ≠ g → w'.heap[k]? = w.heap[k]?) ∨
    (v'.ownBlock = some w.heap.size ∧ w'.heap.size = w.heap.size + 1 ∧ ∀ k, k < w.heap.size → w'.heap[k]? = w.heap[k]?)
theorem Grew.size {e : TypeId} {n : Nat} {u : Value} {w w' : World} {v v' : Value} (h : Grew e n u w w' v v') : w.heap.size ≤ w'.heap.size := by
  rcases h.how with ⟨g, cur, _, _, _, _, hs, _⟩ | ⟨_, hs, _⟩ <;> omega
theorem Grew.other {e : TypeId} {n : Nat} {u : Value} {w w' : World} {v v' : Value} (h : Grew e n u w w' v v') (k : Nat) (hk : k < w.heap.size) (hv : v.ownBlock ≠ some k) : w'.heap[k]? = w.heap[k]? := by
  rcases h.how with ⟨g, cur, h1, _, _, _, _, hb⟩ | ⟨_, _, hb⟩
  · exact hb k (fun e => hv (by rw [h1, e]))
  · exact hb k hk
/-- another list, that may lie in the same memory if it agrees -/
theorem Grew.line {e e2 : TypeId} {n n2 : Nat} {u : Value} {w w' : World} {v v' v2 : Value} {f2 : Nat → Value} (h : Grew e n u w w' v v') (h2 : Line w e2 v2 n2 f2) (hs : v2.ownBlock = v.ownBlock → n < n2 → f2 n = u) : Line w' e2 v2 n2 f2 := by
  rcases h2 with h2 | ⟨g2, cap, cur2, rfl, hg2, hn, hc, hz, hh⟩
  · exact .inl h2
  · have hlt := (Array.getElem?_eq_some_iff.1 hg2).1
    rcases h.how with ⟨g, cur, h1, _, hcur, ⟨cur', hw', hsz, hat, hoth⟩, _, hb⟩ | ⟨_, _, hb⟩
    · by_cases eg : g2 = g
      · subst eg
        rw [hcur] at hg2
        cases hg2
        refine .inr ⟨g2, cap, cur', rfl, hw', hn, hc, by omega, fun j hj => ?_⟩
        by_cases ej : j = n
        · subst ej
          rw [hat, hs h1.symm hj]
        · rw [hoth j ej, hh j hj]
      · exact .inr ⟨g2, cap, cur2, rfl, by rw [hb g2 eg]; exact hg2, hn, hc, hz, hh⟩
    · exact .inr ⟨g2, cap, cur2, rfl, by rw [hb g2 hlt]; exact hg2, hn, hc, hz, hh⟩
theorem append_line {P : Program} {w : World} {ops : Array Oper} {rest : List Oper} {o : Oper} {a : Act} {Q : Exit → Act → World → Prop} (hgd : o.guard = none) (s x : Operand) (t : TypeId) (ho : o.op = .call { callee := .builtin .append, args := #[s, x], argTypes := #[t, t] })
    (e : TypeId) (i : TypeInfo) (z : Value) (bytes : Nat) (ht : P.underlying t = some (.slice e)) (hi : P.info? e = some i) (hz : i.zero = some z) (hsize : i.size = 1) (hby : i.bytes = bytes) (hzs : z.cells.size = 1)
    (v : Value) (n : Nat) (f : Nat → Value) (hs : a.eval s = v) (hown : Line w e v n f) (b : Nat) (hx : a.eval x = .slice (some ⟨b, 0, none⟩) 1 1) (u : Value) (hc : w.cell? ⟨b, 0, none⟩ = some u) (h1 : u.oneCell' = true) (hn : (n + 1) * bytes ≤ 140737488355328) (hn2 : n + 1 ≤ 9007199254740992)
    (h : ∀ v' w', Line w' e v' (n + 1) (fun j => if j < n then f j else u) → Grew e n u w w' v v' → wpList P ops Q rest (a.put o.dst v') w') : wpList P ops Q (o :: rest) a w := by
  have hnews : ∀ j x, [u][j]? = some x → w.cell? ((⟨b, 0, none⟩ : Addr).add j) = some x := by
    intro j x hj
    match j, hj with
    | 0, hj => simp at hj; subst hj; simpa [Addr.add] using hc
  have h1' : ∀ x ∈ [u], x.oneCell' = true := by intro x hx; simp at hx; subst hx; exact h1
  refine wpList_plain hgd fun _ hK => ?_
  have hml : n + 1 ≤ maxLen := by simp only [maxLen]; omega
  rcases hown with ⟨rfl, rfl⟩ | ⟨g, cap, cur, rfl, hg, hnc, hcm, hcs, hf⟩
  · have hr := run_append_nil (P := P) w t o.type e i z ht hi hz ⟨b, 0, none⟩ 1 1 [u] (by rw [hsize]; rfl) hnews (by omega) (by omega) (by rw [hby]; omega)
    have hge := grownCap_ge w 1 0 e
    have hcm2 : grownCap w 1 0 e ≤ maxLen := grownCap_le_maxLen w 1 0 e hml
    refine wp_appended s x t ho _ _ hs hx _ _ hr (hK _ _ (h _ _ (.inr ⟨w.heap.size, _, _, rfl, heap_alloc_new w.drew _, hge, hcm2, ?_, fun j hj => ?_⟩) ⟨rfl, rfl, rfl, .inr ⟨rfl, by simp, fun k hk => heap_alloc_old w.drew _ hk⟩⟩))
    · simp only [Array.size_append, List.size_toArray, size_zeroCells, hzs, List.length_singleton]
      omega
    · have : j = 0 := by omega
      subst this
      show _ = some (if 0 < 0 then f 0 else u)
      rw [if_neg (by omega), Array.getElem?_append_left (by simp)]
      rfl
  · by_cases hroom : n + 1 ≤ cap
    · have hr := run_append_room (P := P) w t o.type e i ht hi g n cap cur hg ⟨b, 0, none⟩ 1 1 [u] (by rw [hsize]; rfl) hnews h1' hroom (by rw [hsize]; simp; omega)
      rw [hsize] at hr
      have hcur : ∀ j, (cur.toList.take (n * 1) ++ [u] ++ cur.toList.drop (n * 1 + [u].length)).toArray[j]? = if j = n then some u else cur[j]? := by
        intro j
        rw [List.getElem?_toArray, Nat.mul_one, List.append_assoc]
        by_cases hlt : j < n
        · rw [List.getElem?_append_left (by simp; omega), List.getElem?_take, if_pos hlt, if_neg (by omega)]
          simp
        · rw [List.getElem?_append_right (by simp; omega)]
          have hl : (cur.toList.take n).length = n := by simp; omega
          rw [hl]
          by_cases e1 : j = n
          · subst e1; rw [if_pos rfl]; simp
          · rw [if_neg e1]
            obtain ⟨d, rfl⟩ : ∃ d, j = n + 1 + d := ⟨j - n - 1, by omega⟩
            rw [show n + 1 + d - n = d + 1 by omega]
            simp [List.getElem?_drop]
      have hsz : (cur.toList.take (n * 1) ++ [u] ++ cur.toList.drop (n * 1 + [u].length)).toArray.size = cur.size := by
        simp only [List.size_toArray, List.length_append, List.length_take, List.length_drop, Array.length_toList, List.length_singleton]
        omega
      have hblk := setRow_heap w g cur (cur.toList.take (n * 1) ++ [u] ++ cur.toList.drop (n * 1 + [u].length)).toArray e _ hg
      generalize (cur.toList.take (n * 1) ++ [u] ++ cur.toList.drop (n * 1 + [u].length)).toArray = cur' at *
      refine wp_appended s x t ho _ _ hs hx _ _ hr (hK _ _ (h _ _ (.inr ⟨g, cap, cur', rfl, hblk, hroom, hcm, by omega, fun j hj => ?_⟩) ⟨rfl, rfl, rfl, .inl ⟨g, cur, rfl, rfl, hg, ⟨cur', hblk, hsz, by rw [hcur, if_pos rfl], fun j hj => by rw [hcur, if_neg hj]⟩, by simp [World.setRow], fun k hk => setRow_other w g k _ hk⟩⟩))
      rw [hcur]
      show _ = some (if j < n then f j else u)
      by_cases e1 : j = n
      · subst e1; rw [if_pos rfl, if_neg (by omega)]
      · rw [if_neg e1, if_pos (by omega), hf j (by omega)]
    · have hcl : cap = n := by omega
      subst hcl
      have hol : (cur.toList.take cap).length = cap := by simp; omega
      have holds : ∀ j x, (cur.toList.take cap)[j]? = some x → w.cell? ((⟨g, 0, none⟩ : Addr).add j) = some x := by
        intro j x hj
        have hadd : (⟨g, 0, none⟩ : Addr).add j = ⟨g, j, none⟩ := by unfold Addr.add; split <;> simp_all
        rw [hadd]
        simp only [World.cell?, hg]
        rw [List.getElem?_take] at hj
        split at hj
        · simpa using hj
        · cases hj
      have hr := run_append_grow (P := P) w t o.type e i z ht hi hz ⟨g, 0, none⟩ cap cap (cur.toList.take cap) (by rw [hsize]; omega) holds ⟨b, 0, none⟩ 1 1 [u] (by rw [hsize]; rfl) hnews (by omega) (by omega) (by rw [hby]; exact growslice_fits (by omega) hn)
      have hge := grownCap_ge w (cap + 1) cap e
      have hcm2 : grownCap w (cap + 1) cap e ≤ maxLen := grownCap_le_maxLen w (cap + 1) cap e hml
      refine wp_appended s x t ho _ _ hs hx _ _ hr (hK _ _ (h _ _ (.inr ⟨w.heap.size, _, _, rfl, heap_alloc_new w.drew _, hge, hcm2, ?_, fun j hj => ?_⟩) ⟨rfl, rfl, rfl, .inr ⟨rfl, by simp, fun k hk => heap_alloc_old w.drew _ hk⟩⟩))
      · simp only [Array.size_append, List.size_toArray, size_zeroCells, hzs, hol, List.length_singleton]
        omega
      · rw [Array.getElem?_append_left (by simp; omega)]
        show _ = some (if j < cap then f j else u)
        by_cases e1 : j < cap
        · rw [if_pos e1, ← hf j e1, Array.getElem?_append_left (by simp; omega), List.getElem?_toArray, List.getElem?_take, if_pos e1]
          simp
        · have : j = cap := by omega
          subst this
          rw [if_neg (by omega), Array.getElem?_append_right (by simp; omega)]
          simp [hol]
end Go.Proofs.YtecfgbjnjgjkoaaGreatDoor.Bk
namespace Go.Proofs.YtecfgbjnjgjkoaaGreatDoor.Bk
open Go.ChangeShapes Go.WideShapes Go.ChangeAt Go.RowKit
set_option linter.unusedVariables false
set_option maxRecDepth 100000
set_option maxHeartbeats 4000000

theorem Tryz.info3 : (Tryz.prog.info? 3).map (fun i => (i.zero, i.size, i.bytes)) = some (some (.int .i64 0), 1, 8) := by kernel_rfl
/-- byte k of the mark of list n -/
def atN (n k : Nat) : Nat := if k % 2 = 0 then 1 + n % 251 else 1 + (7 * n + n / 251) % 251
theorem atN_lt (n k : Nat) : atN n k < 256 := by unfold atN; split <;> omega
theorem at_any (n k : Nat) (w : World) (hn : n ≤ 1000000000000) (hk : k ≤ 9007199254740992) : Calls Tryz.prog 63 #[.int .i64 n, .int .i64 k] w fun e w' => e = .returned (.int .u8 (atN n k : Nat)) ∧ w' = w := by
  have e1 : (k : Int).tmod 2 = ((k % 2 : Nat) : Int) := rfl
  have e2 : (n : Int).tmod 251 = ((n % 251 : Nat) : Int) := rfl
  have e3 : (n : Int).tdiv 251 = ((n / 251 : Nat) : Int) := rfl
  have e4 : (7 * (n : Int) + ((n / 251 : Nat) : Int)).tmod 251 = (((7 * n + n / 251) % 251 : Nat) : Int) := rfl
  have l1 : n % 251 < 251 := Nat.mod_lt _ (by decide)
  have l2 : (7 * n + n / 251) % 251 < 251 := Nat.mod_lt _ (by decide)
  have l3 : n / 251 ≤ n := Nat.div_le_self _ _
  unfold atN
  by_cases h : k % 2 = 0
  · rw [if_pos h]
    rw [h] at e1
    generalize n % 251 = r at *
    clear e3 e4 l2 l3
    rw [show ((1 + r : Nat) : Int) = 1 + (r : Int) by omega]
    go_enter Tryz.func63, Tryz.ntmps63
    go_wp2
    go_ret
    exact ⟨rfl, rfl⟩
  · rw [if_neg h]
    have h1 : k % 2 = 1 := by omega
    rw [h1] at e1
    generalize n / 251 = d at *
    generalize (7 * n + d) % 251 = r at *
    rw [show ((1 + r : Nat) : Int) = 1 + (r : Int) by omega]
    go_enter Tryz.func63, Tryz.ntmps63
    go_wp2
    go_ret
    exact ⟨rfl, rfl⟩
def wmN (m : Nat) : Nat := m * 1099511627776
theorem wm_any (m : Nat) (w : World) (hm : m < 16777216) : Calls Tryz.prog 122 #[.int .i64 m] w fun e w' => e = .returned (.int .u64 (wmN m : Nat)) ∧ w' = w := by
  unfold wmN
  rw [show ((m * 1099511627776 : Nat) : Int) = (m : Int) * 1099511627776 by omega]
  go_enter Tryz.func122, Tryz.ntmps122
  go_wp2
  go_ret
  exact ⟨rfl, rfl⟩
def intV (n : Nat) : Value := .int .i64 (n : Int)
/-- one half of a book: lists of one kind: their row, the row of their marks, what these hold; how many have been grown -/
structure HalfSt where
  v : Value
  o : Value
  L : List Value
  M : List Nat
  n : Nat
/-- c tells the kind: its rows have the tags 1 + 2 c and 2 + 2 c, the memory of its lists of mark m the tag 10 + 2 m + c -/
structure Half (c : Nat) (te tl : TypeId) (mk : Nat → Nat → Value) (w : World) (tag : Nat → Nat) (T : Nat) (H : HalfSt) : Prop where
  rl : Line w tl H.v H.L.length (fun j => H.L.getD j undef)
  ro : Line w 3 H.o H.M.length (fun j => intV (H.M.getD j 0))
  tl' : ∀ g, H.v.ownBlock = some g → tag g = 1 + 2 * c
  to' : ∀ g, H.o.ownBlock = some g → tag g = 2 + 2 * c
  ent : ∀ j, j < H.M.length → Line w te (H.L.getD j undef) (lenOf (H.L.getD j undef)) (mk (H.M.getD j 0)) ∧ (∀ g, (H.L.getD j undef).ownBlock = some g → tag g = 10 + 2 * H.M.getD j 0 + c) ∧ lenOf (H.L.getD j undef) ≤ 33554432 ∧ H.M.getD j 0 ≤ T
  fresh : ∀ j, H.n ≤ j → j < H.M.length → lenOf (H.L.getD j undef) ≤ 16777216
  le : H.M.length ≤ H.L.length
/-- all that has the tag 0 is beyond -/
def Under (w : World) (tag : Nat → Nat) : Prop := ∀ g, tag g ≠ 0 → g < w.heap.size
theorem Half.same {c : Nat} {te tl : TypeId} {mk : Nat → Nat → Value} {w w' : World} {tag : Nat → Nat} {T T' : Nat} {H : HalfSt} (h : Half c te tl mk w tag T H) (hb : ∀ g, tag g ≠ 0 → w'.heap[g]? = w.heap[g]?) (hT : T ≤ T') : Half c te tl mk w' tag T' H := by
  refine ⟨h.rl.same (fun g hg => hb g (by rw [h.tl' g hg]; omega)), h.ro.same (fun g hg => hb g (by rw [h.to' g hg]; omega)), h.tl', h.to', fun j hj => ?_, h.fresh, h.le⟩
  obtain ⟨h1, h2, h3, h4⟩ := h.ent j hj
  exact ⟨h1.same (fun g hg => hb g (by rw [h2 g hg]; omega)), h2, h3, by omega⟩
/-- a change of what has another tag -/
theorem Half.conf {c : Nat} {te tl : TypeId} {mk : Nat → Nat → Value} {w w' : World} {tag tag' : Nat → Nat} {T : Nat} {H : HalfSt} (h : Half c te tl mk w tag T H) (k : Nat) (hb : ∀ g, g < w.heap.size → tag g ≠ k → w'.heap[g]? = w.heap[g]?) (ht : ∀ g, g < w.heap.size → tag' g = tag g) (k1 : k ≠ 1 + 2 * c) (k2 : k ≠ 2 + 2 * c) (k3 : ∀ m, k ≠ 10 + 2 * m + c) : Half c te tl mk w' tag' T H := by
  refine ⟨h.rl.same (fun g hg => hb g (h.rl.lt g hg) (by rw [h.tl' g hg]; omega)), h.ro.same (fun g hg => hb g (h.ro.lt g hg) (by rw [h.to' g hg]; omega)), fun g hg => (ht g (h.rl.lt g hg)).trans (h.tl' g hg), fun g hg => (ht g (h.ro.lt g hg)).trans (h.to' g hg), fun j hj => ?_, h.fresh, h.le⟩
  obtain ⟨h1, h2, h3, h4⟩ := h.ent j hj
  exact ⟨h1.same (fun g hg => hb g (h1.lt g hg) (by rw [h2 g hg]; exact fun e => k3 _ e.symm)), fun g hg => (ht g (h1.lt g hg)).trans (h2 g hg), h3, h4⟩
def tagAt (tag : Nat → Nat) (v : Value) (k : Nat) : Nat → Nat := fun g => if v.ownBlock = some g then k else tag g
theorem tagAt_old {e : TypeId} {n : Nat} {u : Value} {w w' : World} {v v' : Value} {tag : Nat → Nat} {k : Nat} (hg : Grew e n u w w' v v') (hv : ∀ g, v.ownBlock = some g → tag g = k) : ∀ g, g < w.heap.size → tagAt tag v' k g = tag g := by
  intro g hlt
  unfold tagAt
  by_cases hh : v'.ownBlock = some g
  · rw [if_pos hh]
    rcases hg.how with ⟨q, cur, h1, h2, _⟩ | ⟨h1, _⟩
    · rw [h2] at hh; cases hh; exact (hv _ h1).symm
    · rw [h1] at hh; cases hh; omega
  · rw [if_neg hh]
theorem tagAt_under {e : TypeId} {n : Nat} {u : Value} {w w' : World} {v v' : Value} {tag : Nat → Nat} {k : Nat} {f : Nat → Value} (hg : Grew e n u w w' v v') (hu : Under w tag) (hl : Line w e v n f) : Under w' (tagAt tag v' k) := by
  intro g hne
  unfold tagAt at hne
  have hs := hg.size
  by_cases hh : v'.ownBlock = some g
  · rcases hg.how with ⟨q, cur, h1, h2, _⟩ | ⟨h1, h2, _⟩
    · rw [h2] at hh; cases hh; have := hl.lt _ h1; omega
    · rw [h1] at hh; cases hh; omega
  · rw [if_neg hh] at hne
    have := hu g hne
    omega
/-- one list more in the row -/
theorem Half.addL {c : Nat} {te tl : TypeId} {mk : Nat → Nat → Value} {w w' : World} {tag : Nat → Nat} {T : Nat} {H : HalfSt} (hc : c ≤ 1) (h : Half c te tl mk w tag T H) {x v' : Value} (hg : Grew tl H.L.length x w w' H.v v') (hl : Line w' tl v' (H.L.length + 1) (fun j => if j < H.L.length then H.L.getD j undef else x)) : Half c te tl mk w' (tagAt tag v' (1 + 2 * c)) T { H with v := v', L := H.L ++ [x] } := by
  have hle := h.le
  have hb : ∀ g, g < w.heap.size → tag g ≠ 1 + 2 * c → w'.heap[g]? = w.heap[g]? := fun g hlt hne => hg.other g hlt (fun e => hne (h.tl' g e))
  have ht := tagAt_old hg h.tl'
  have hgd : ∀ j, j < H.L.length → (H.L ++ [x]).getD j undef = H.L.getD j undef := fun j hj => by
    rw [List.getD_eq_getElem?_getD, List.getElem?_append_left hj, ← List.getD_eq_getElem?_getD]
  refine ⟨?_, h.ro.same (fun g hg => hb g (h.ro.lt g hg) (by rw [h.to' g hg]; omega)), fun g hg => by unfold tagAt; rw [if_pos hg], fun g hg => (ht g (h.ro.lt g hg)).trans (h.to' g hg), fun j hj => ?_, fun j h1 h2 => ?_, by simp; omega⟩
  · show Line w' tl v' (H.L ++ [x]).length _
    rw [List.length_append, List.length_singleton]
    refine hl.congr (fun j hj => ?_)
    by_cases hlt : j < H.L.length
    · rw [if_pos hlt]; exact (hgd j hlt).symm
    · have : j = H.L.length := by omega
      subst this
      rw [if_neg hlt]
      show x = (H.L ++ [x]).getD H.L.length undef
      simp [List.getD_eq_getElem?_getD]
  · have hj' : j < H.M.length := hj
    obtain ⟨h1, h2, h3, h4⟩ := h.ent j hj'
    show Line w' te ((H.L ++ [x]).getD j undef) (lenOf ((H.L ++ [x]).getD j undef)) _ ∧ (∀ g, ((H.L ++ [x]).getD j undef).ownBlock = some g → _) ∧ lenOf ((H.L ++ [x]).getD j undef) ≤ _ ∧ _
    rw [hgd j (by omega)]
    exact ⟨h1.same (fun g hg => hb g (h1.lt g hg) (by rw [h2 g hg]; omega)), fun g hg => (ht g (h1.lt g hg)).trans (h2 g hg), h3, h4⟩
  · show lenOf ((H.L ++ [x]).getD j undef) ≤ _
    have h2' : j < H.M.length := h2
    rw [hgd j (by omega)]
    exact h.fresh j h1 h2'
/-- and its mark -/
theorem Half.addO {c : Nat} {te tl : TypeId} {mk : Nat → Nat → Value} {w w' : World} {tag : Nat → Nat} {T : Nat} {H : HalfSt} (hc : c ≤ 1) (h : Half c te tl mk w tag T H) (hlen : H.L.length = H.M.length + 1) {m : Nat} {o' : Value} (hg : Grew 3 H.M.length (intV m) w w' H.o o') (hl : Line w' 3 o' (H.M.length + 1) (fun j => if j < H.M.length then intV (H.M.getD j 0) else intV m))
    (hn : Line w te (H.L.getD H.M.length undef) (lenOf (H.L.getD H.M.length undef)) (mk m)) (htg : ∀ g, (H.L.getD H.M.length undef).ownBlock = some g → tag g = 10 + 2 * m + c) (hz : lenOf (H.L.getD H.M.length undef) ≤ 33554432) (hmT : m ≤ T) (hf : H.n ≤ H.M.length → lenOf (H.L.getD H.M.length undef) ≤ 16777216) :
    Half c te tl mk w' (tagAt tag o' (2 + 2 * c)) T { H with o := o', M := H.M ++ [m] } := by
  have hb : ∀ g, g < w.heap.size → tag g ≠ 2 + 2 * c → w'.heap[g]? = w.heap[g]? := fun g hlt hne => hg.other g hlt (fun e => hne (h.to' g e))
  have ht := tagAt_old hg h.to'
  have hgd : ∀ j, j < H.M.length → (H.M ++ [m]).getD j 0 = H.M.getD j 0 := fun j hj => by
    rw [List.getD_eq_getElem?_getD, List.getElem?_append_left hj, ← List.getD_eq_getElem?_getD]
  have hgl : (H.M ++ [m]).getD H.M.length 0 = m := by simp [List.getD_eq_getElem?_getD]
  refine ⟨h.rl.same (fun g hg => hb g (h.rl.lt g hg) (by rw [h.tl' g hg]; omega)), ?_, fun g hg => (ht g (h.rl.lt g hg)).trans (h.tl' g hg), fun g hg => by unfold tagAt; rw [if_pos hg], fun j hj => ?_, fun j h1 h2 => ?_, by simp; omega⟩
  · show Line w' 3 o' (H.M ++ [m]).length _
    rw [List.length_append, List.length_singleton]
    refine hl.congr (fun j hj => ?_)
    show _ = intV ((H.M ++ [m]).getD j 0)
    by_cases hlt : j < H.M.length
    · rw [if_pos hlt, hgd j hlt]
    · have : j = H.M.length := by omega
      subst this
      rw [if_neg hlt, hgl]
  · have hj' : j < H.M.length + 1 := by simpa using hj
    show Line w' te (H.L.getD j undef) (lenOf (H.L.getD j undef)) (mk ((H.M ++ [m]).getD j 0)) ∧ (∀ g, (H.L.getD j undef).ownBlock = some g → tagAt tag o' (2 + 2 * c) g = 10 + 2 * (H.M ++ [m]).getD j 0 + c) ∧ lenOf (H.L.getD j undef) ≤ _ ∧ (H.M ++ [m]).getD j 0 ≤ T
    by_cases hlt : j < H.M.length
    · obtain ⟨h1, h2, h3, h4⟩ := h.ent j hlt
      rw [hgd j hlt]
      exact ⟨h1.same (fun g hg => hb g (h1.lt g hg) (by rw [h2 g hg]; omega)), fun g hg => (ht g (h1.lt g hg)).trans (h2 g hg), h3, h4⟩
    · have : j = H.M.length := by omega
      subst this
      rw [hgl]
      exact ⟨hn.same (fun g hg => hb g (hn.lt g hg) (by rw [htg g hg]; omega)), fun g hg => (ht g (hn.lt g hg)).trans (htg g hg), hz, hmT⟩
  · have hj' : j < H.M.length + 1 := by simpa using h2
    by_cases hlt : j < H.M.length
    · exact h.fresh j h1 hlt
    · have : j = H.M.length := by omega
      subst this
      exact hf h1
/-- a list of mark m grows: within its memory, or in new one -/
theorem Half.growIn {c : Nat} {te tl : TypeId} {mk : Nat → Nat → Value} {w w' : World} {tag : Nat → Nat} {T : Nat} {H : HalfSt} (hc : c ≤ 1) (h : Half c te tl mk w tag T H) {m n : Nat} {g g' : Value} (hg : Grew te n (mk m n) w w' g g') (hv : ∀ q, g.ownBlock = some q → tag q = 10 + 2 * m + c) : Half c te tl mk w' (tagAt tag g' (10 + 2 * m + c)) T H := by
  have hb : ∀ q, q < w.heap.size → tag q ≠ 10 + 2 * m + c → w'.heap[q]? = w.heap[q]? := fun q hlt hne => hg.other q hlt (fun e => hne (hv q e))
  have ht := tagAt_old hg hv
  refine ⟨h.rl.same (fun q hq => hb q (h.rl.lt q hq) (by rw [h.tl' q hq]; omega)), h.ro.same (fun q hq => hb q (h.ro.lt q hq) (by rw [h.to' q hq]; omega)), fun q hq => (ht q (h.rl.lt q hq)).trans (h.tl' q hq), fun q hq => (ht q (h.ro.lt q hq)).trans (h.to' q hq), fun j hj => ?_, h.fresh, h.le⟩
  obtain ⟨h1, h2, h3, h4⟩ := h.ent j hj
  refine ⟨hg.line h1 (fun e hlt => ?_), fun q hq => (ht q (h1.lt q hq)).trans (h2 q hq), h3, h4⟩
  cases hq : (H.L.getD j undef).ownBlock with
  | none =>
    rcases h1 with ⟨h0, hz⟩ | ⟨q, cap, cur, hv2, _⟩
    · omega
    · rw [hv2] at hq; cases hq
  | some q =>
    have e1 := h2 q hq
    rw [hq] at e
    have e2 := hv q e.symm
    have : H.M.getD j 0 = m := by omega
    rw [this]
/-- the other kind is not touched by it -/
theorem Half.growElse {c c' : Nat} {te tl te' : TypeId} {mk : Nat → Nat → Value} {w w' : World} {tag : Nat → Nat} {T : Nat} {H : HalfSt} (hc : c ≤ 1) (hc' : c' ≤ 1) (hne : c ≠ c') (h : Half c te tl mk w tag T H) {k n : Nat} {u g g' : Value} (hg : Grew te' n u w w' g g') (hv : ∀ q, g.ownBlock = some q → tag q = k) (hk : k = 1 + 2 * c' ∨ k = 2 + 2 * c' ∨ ∃ m, k = 10 + 2 * m + c') : Half c te tl mk w' (tagAt tag g' k) T H := by
  have hb : ∀ q, q < w.heap.size → tag q ≠ k → w'.heap[q]? = w.heap[q]? := fun q hlt hne => hg.other q hlt (fun e => hne (hv q e))
  refine h.conf k hb (tagAt_old hg hv) ?_ ?_ ?_
  · rcases hk with rfl | rfl | ⟨m, rfl⟩ <;> omega
  · rcases hk with rfl | rfl | ⟨m, rfl⟩ <;> omega
  · intro m'
    rcases hk with rfl | rfl | ⟨m, rfl⟩ <;> omega
end Go.Proofs.YtecfgbjnjgjkoaaGreatDoor.Bk
namespace Go.Proofs.YtecfgbjnjgjkoaaGreatDoor.Bk
open Go.ChangeShapes Go.WideShapes Go.ChangeAt Go.RowKit
set_option linter.unusedVariables false
set_option maxRecDepth 100000
set_option maxHeartbeats 4000000

structure BookSt where
  b : HalfSt
  u : HalfSt
  turn : Nat
  done : Nat
  used : Nat
def nilS : Value := .slice none 0 0
def BookSt.flds (S : BookSt) : List Value := [S.b.v, S.b.o, intV S.b.n, nilS, nilS, intV 0, S.u.v, S.u.o, intV S.u.n, nilS, nilS, intV 0, nilS, nilS, intV 0, nilS, nilS, intV 0, nilS, nilS, intV 0, nilS, nilS, intV 0, nilS, nilS, intV 0, nilS, nilS, intV 0, intV S.turn, intV S.done, intV S.used]
/-- the fields of a struct from o on -/
structure Flds (w : World) (pb o : Nat) (l : List Value) : Prop where
  c : ∀ i, i < 33 → w.cell? ⟨pb, o + i, none⟩ = some (l.getD i undef)
  f : ∀ i, i < 33 → w.frozen? ⟨pb, o + i, none⟩ = false
  lt : pb < w.heap.size
theorem Flds.set {w : World} {pb o : Nat} {l : List Value} (h : Flds w pb o l) (i : Nat) (hi : i < 33) (hl : l.length = 33) (v : Value) : Flds (w.setCell ⟨pb, o + i, none⟩ v) pb o (l.set i v) := by
  refine ⟨fun j hj => ?_, fun j hj => by rw [World.frozen?_setCell]; exact h.f j hj, by simpa using h.lt⟩
  by_cases e : j = i
  · subst e
    rw [World.cell?_setCell_same _ _ _ (h.c j hj)]
    simp [List.getD_eq_getElem?_getD, hl, hi]
  · rw [World.cell?_setCell_other _ _ _ _ (fun e' => e (by injection e' with e1 e2; omega)), h.c j hj]
    simp [List.getD_eq_getElem?_getD, Ne.symm e]
theorem Flds.same {w w' : World} {pb o : Nat} {l : List Value} (h : Flds w pb o l) (hb : w'.heap[pb]? = w.heap[pb]?) (hs : w.heap.size ≤ w'.heap.size) : Flds w' pb o l :=
  ⟨fun i hi => (World.cell?_of_block (a := ⟨pb, o + i, none⟩) hb).trans (h.c i hi), fun i hi => (World.frozen?_of_block (a := ⟨pb, o + i, none⟩) hb).trans (h.f i hi), Nat.lt_of_lt_of_le h.lt hs⟩
def bmk (m k : Nat) : Value := .int .u8 (atN m k : Nat)
def wmk (m k : Nat) : Value := .int .u64 (wmN m : Nat)
structure BookAt (w : World) (pb o : Nat) (tag : Nat → Nat) (S : BookSt) : Prop where
  fl : Flds w pb o S.flds
  hb : Half 0 5 25 bmk w tag S.turn S.b
  hu : Half 1 153 152 wmk w tag S.turn S.u
  un : Under w tag
  tp : tag pb = 0
  eb : S.b.L.length = S.b.M.length
  eu : S.u.L.length = S.u.M.length
  nb : S.b.n ≤ S.b.M.length
  nu : S.u.n ≤ S.u.M.length
  cnt : 1200 * S.b.M.length + 1200 * S.u.M.length ≤ S.used + 1080 * S.b.n + 1080 * S.u.n
  us : S.used ≤ 16777216
  tn : S.turn ≤ 1000000
/-- what a call of the book's leaves alone -/
structure Noted (pb o : Nat) (tag tag' : Nat → Nat) (w w' : World) : Prop where
  os : w'.os = w.os
  tape : w'.tape = w.tape
  output : w'.output = w.output
  size : w.heap.size ≤ w'.heap.size
  tg : ∀ g, g < w.heap.size → tag' g = tag g
  blk : ∀ g, g < w.heap.size → tag g = 0 → g ≠ pb → w'.heap[g]? = w.heap[g]?
  rest : ∀ j, (j < o ∨ o + 33 ≤ j) → w'.cell? ⟨pb, j, none⟩ = w.cell? ⟨pb, j, none⟩ ∧ w'.frozen? ⟨pb, j, none⟩ = w.frozen? ⟨pb, j, none⟩
theorem Noted.refl (pb o : Nat) (tag : Nat → Nat) (w : World) : Noted pb o tag tag w w := ⟨rfl, rfl, rfl, Nat.le_refl _, fun _ _ => rfl, fun _ _ _ _ => rfl, fun _ _ => ⟨rfl, rfl⟩⟩
theorem Noted.trans {pb o : Nat} {t t' t'' : Nat → Nat} {w w' w'' : World} (h : Noted pb o t t' w w') (k : Noted pb o t' t'' w' w'') : Noted pb o t t'' w w'' := by
  have hs := h.size
  exact ⟨k.os.trans h.os, k.tape.trans h.tape, k.output.trans h.output, Nat.le_trans h.size k.size, fun g hg => (k.tg g (by omega)).trans (h.tg g hg), fun g h1 h2 h3 => (k.blk g (by omega) (by rw [h.tg g h1]; exact h2) h3).trans (h.blk g h1 h2 h3), fun j hj => ⟨(k.rest j hj).1.trans (h.rest j hj).1, (k.rest j hj).2.trans (h.rest j hj).2⟩⟩
/-- a field of the book is set -/
theorem Noted.set {pb o : Nat} {tag : Nat → Nat} {w : World} (i : Nat) (hi : i < 33) (v : Value) : Noted pb o tag tag w (w.setCell ⟨pb, o + i, none⟩ v) :=
  ⟨rfl, rfl, rfl, by simp, fun _ _ => rfl, fun g _ _ h => setCell_else w pb (o + i) g v h, fun j hj => ⟨World.cell?_setCell_other _ _ _ _ (fun e => by injection e with e1 e2; omega), World.frozen?_setCell _ _ _ _⟩⟩
/-- something is made anew -/
theorem Noted.alloc {pb o : Nat} {tag : Nat → Nat} {w : World} (hp : pb < w.heap.size) (x : Obj) : Noted pb o tag tag w (w.alloc x) :=
  ⟨rfl, rfl, rfl, by simp, fun _ _ => rfl, fun g h1 _ _ => heap_alloc_old w x h1, fun j hj => ⟨World.cell?_of_block (a := ⟨pb, j, none⟩) (heap_alloc_old w x hp), World.frozen?_of_block (a := ⟨pb, j, none⟩) (heap_alloc_old w x hp)⟩⟩
/-- a list of the book's grows -/
theorem Noted.grew {pb o : Nat} {tag : Nat → Nat} {w w' : World} {e : TypeId} {n k : Nat} {u v v' : Value} (hp : pb < w.heap.size) (htp : tag pb = 0) (hk : k ≠ 0) (hg : Grew e n u w w' v v') (hv : ∀ q, v.ownBlock = some q → tag q = k) : Noted pb o tag (tagAt tag v' k) w w' := by
  have hpb := hg.other pb hp (fun e => by have := hv pb e; omega)
  exact ⟨hg.os, hg.tape, hg.output, hg.size, tagAt_old hg hv, fun g h1 h2 _ => hg.other g h1 (fun e => by have := hv g e; omega), fun j hj => ⟨World.cell?_of_block (a := ⟨pb, j, none⟩) hpb, World.frozen?_of_block (a := ⟨pb, j, none⟩) hpb⟩⟩
theorem tight_any {w : World} {pb o : Nat} {S : BookSt} (h : Flds w pb o S.flds) (n : Nat) (hu : S.used ≤ 16777216) (hn : n ≤ 1152921504606846976) :
    Calls Tryz.prog 64 #[.pointer (some ⟨pb, o, none⟩), .int .i64 n] w fun e w' => (16777216 < S.used + n ∧ e = .returned (.bool true) ∧ w' = w) ∨ (S.used + n ≤ 16777216 ∧ e = .returned (.bool false) ∧ w' = w.setCell ⟨pb, o + 32, none⟩ (intV (S.used + n))) := by
  have c32 : w.cell? ⟨pb, o + 32, none⟩ = some (.int .i64 S.used) := h.c 32 (by decide)
  have f32 := h.f 32 (by decide)
  have e1 : intV (S.used + n) = .int .i64 ((S.used : Int) + (n : Int)) := by unfold intV; rw [show ((S.used + n : Nat) : Int) = (S.used : Int) + (n : Int) by omega]
  rw [e1]
  generalize S.used = u at *
  clear h e1
  by_cases ht : 16777216 < u + n
  · have d1 : decide ((16777216 : Int) < (u : Int) + (n : Int)) = true := decide_eq_true (by omega)
    go_enter Tryz.func64, Tryz.ntmps64
    go_wp2
    go_ret
    exact .inl ⟨ht, rfl, rfl⟩
  · have d1 : decide ((16777216 : Int) < (u : Int) + (n : Int)) = false := decide_eq_false (by omega)
    go_enter Tryz.func64, Tryz.ntmps64
    go_wp2
    go_ret
    exact .inr ⟨by omega, rfl, rfl⟩
end Go.Proofs.YtecfgbjnjgjkoaaGreatDoor.Bk
namespace Go.Proofs.YtecfgbjnjgjkoaaGreatDoor.Bk
open Go.ChangeShapes Go.WideShapes Go.ChangeAt Go.RowKit
set_option linter.unusedVariables false
set_option maxRecDepth 100000
set_option maxHeartbeats 4000000

theorem Half.tags {c : Nat} {te tl : TypeId} {mk : Nat → Nat → Value} {w : World} {tag tag' : Nat → Nat} {T : Nat} {H : HalfSt} (h : Half c te tl mk w tag T H) (ht : ∀ g, tag g ≠ 0 → tag' g = tag g) : Half c te tl mk w tag' T H := by
  have hx : ∀ g k, tag g = k → k ≠ 0 → tag' g = k := fun g k e hk => by rw [ht g (by omega)]; exact e
  refine ⟨h.rl, h.ro, fun g hg => hx g _ (h.tl' g hg) (by omega), fun g hg => hx g _ (h.to' g hg) (by omega), fun j hj => ?_, h.fresh, h.le⟩
  obtain ⟨h1, h2, h3, h4⟩ := h.ent j hj
  exact ⟨h1, fun g hg => hx g _ (h2 g hg) (by omega), h3, h4⟩
structure Mid (pb o : Nat) (t0 : Nat → Nat) (w0 : World) (tag : Nat → Nat) (w : World) (l : List Value) (T : Nat) (B U : HalfSt) : Prop where
  fl : Flds w pb o l
  len : l.length = 33
  hb : Half 0 5 25 bmk w tag T B
  hu : Half 1 153 152 wmk w tag T U
  un : Under w tag
  tp : tag pb = 0
  no : Noted pb o t0 tag w0 w
theorem BookAt.mid {w : World} {pb o : Nat} {tag : Nat → Nat} {S : BookSt} (h : BookAt w pb o tag S) : Mid pb o tag w tag w S.flds S.turn S.b S.u := ⟨h.fl, rfl, h.hb, h.hu, h.un, h.tp, Noted.refl _ _ _ _⟩
theorem Mid.set {pb o : Nat} {t0 : Nat → Nat} {w0 : World} {tag : Nat → Nat} {w : World} {l : List Value} {T : Nat} {B U : HalfSt} (h : Mid pb o t0 w0 tag w l T B U) (i : Nat) (hi : i < 33) (v : Value) : Mid pb o t0 w0 tag (w.setCell ⟨pb, o + i, none⟩ v) (l.set i v) T B U := by
  have hb : ∀ g, tag g ≠ 0 → (w.setCell ⟨pb, o + i, none⟩ v).heap[g]? = w.heap[g]? := fun g hg => setCell_else w pb (o + i) g v (fun e => hg (by rw [e]; exact h.tp))
  exact ⟨h.fl.set i hi h.len v, by simpa using h.len, h.hb.same hb (Nat.le_refl _), h.hu.same hb (Nat.le_refl _), fun g hg => by simpa using h.un g hg, h.tp, h.no.trans (Noted.set i hi v)⟩
theorem Mid.alloc {pb o : Nat} {t0 : Nat → Nat} {w0 : World} {tag : Nat → Nat} {w : World} {l : List Value} {T : Nat} {B U : HalfSt} (h : Mid pb o t0 w0 tag w l T B U) (x : Obj) : Mid pb o t0 w0 tag (w.alloc x) l T B U := by
  have hb : ∀ g, tag g ≠ 0 → (w.alloc x).heap[g]? = w.heap[g]? := fun g hg => heap_alloc_old w x (h.un g hg)
  exact ⟨h.fl.same (heap_alloc_old w x h.fl.lt) (by simp), h.len, h.hb.same hb (Nat.le_refl _), h.hu.same hb (Nat.le_refl _), fun g hg => by have := h.un g hg; simp; omega, h.tp, h.no.trans (Noted.alloc h.fl.lt x)⟩
theorem Mid.drawn {pb o : Nat} {t0 : Nat → Nat} {w0 : World} {tag : Nat → Nat} {w : World} {l : List Value} {T : Nat} {B U : HalfSt} (h : Mid pb o t0 w0 tag w l T B U) (n : Nat) : Mid pb o t0 w0 tag (w.drewN n) l T B U :=
  ⟨h.fl.same rfl (Nat.le_refl _), h.len, h.hb.same (fun _ _ => rfl) (Nat.le_refl _), h.hu.same (fun _ _ => rfl) (Nat.le_refl _), h.un, h.tp, h.no.trans ⟨rfl, rfl, rfl, Nat.le_refl _, fun _ _ => rfl, fun _ _ _ _ => rfl, fun _ _ => ⟨rfl, rfl⟩⟩⟩
theorem Grew.flds {w w' : World} {pb o : Nat} {l : List Value} {e : TypeId} {n k : Nat} {u v v' : Value} {tag : Nat → Nat} (h : Flds w pb o l) (hg : Grew e n u w w' v v') (hv : ∀ q, v.ownBlock = some q → tag q = k) (hk : k ≠ 0) (tp : tag pb = 0) : Flds w' pb o l :=
  h.same (hg.other pb h.lt (fun e => by have := hv pb e; omega)) hg.size
theorem tagAt_pb {w w' : World} {pb : Nat} {e : TypeId} {n k : Nat} {u v v' : Value} {tag : Nat → Nat} (hg : Grew e n u w w' v v') (hv : ∀ q, v.ownBlock = some q → tag q = k) (hp : pb < w.heap.size) (tp : tag pb = 0) : tagAt tag v' k pb = 0 := by rw [tagAt_old hg hv pb hp]; exact tp
theorem Mid.addB {pb o : Nat} {t0 : Nat → Nat} {w0 : World} {tag : Nat → Nat} {w w' : World} {l : List Value} {T : Nat} {B U : HalfSt} (h : Mid pb o t0 w0 tag w l T B U) {x v' : Value} (hg : Grew 25 B.L.length x w w' B.v v') (hl : Line w' 25 v' (B.L.length + 1) (fun j => if j < B.L.length then B.L.getD j undef else x)) : Mid pb o t0 w0 (tagAt tag v' 1) w' l T { B with v := v', L := B.L ++ [x] } U :=
  ⟨Grew.flds h.fl hg h.hb.tl' (by decide) h.tp, h.len, h.hb.addL (by decide) hg hl, h.hu.growElse (by decide) (by decide) (c' := 0) (by decide) hg h.hb.tl' (.inl rfl), tagAt_under hg h.un h.hb.rl, tagAt_pb hg h.hb.tl' h.fl.lt h.tp, h.no.trans (Noted.grew h.fl.lt h.tp (by decide) hg h.hb.tl')⟩
theorem Mid.addU {pb o : Nat} {t0 : Nat → Nat} {w0 : World} {tag : Nat → Nat} {w w' : World} {l : List Value} {T : Nat} {B U : HalfSt} (h : Mid pb o t0 w0 tag w l T B U) {x v' : Value} (hg : Grew 152 U.L.length x w w' U.v v') (hl : Line w' 152 v' (U.L.length + 1) (fun j => if j < U.L.length then U.L.getD j undef else x)) : Mid pb o t0 w0 (tagAt tag v' 3) w' l T B { U with v := v', L := U.L ++ [x] } :=
  ⟨Grew.flds h.fl hg h.hu.tl' (by decide) h.tp, h.len, h.hb.growElse (by decide) (by decide) (c' := 1) (by decide) hg h.hu.tl' (.inl rfl), h.hu.addL (by decide) hg hl, tagAt_under hg h.un h.hu.rl, tagAt_pb hg h.hu.tl' h.fl.lt h.tp, h.no.trans (Noted.grew h.fl.lt h.tp (by decide) hg h.hu.tl')⟩
theorem Mid.addBo {pb o : Nat} {t0 : Nat → Nat} {w0 : World} {tag : Nat → Nat} {w w' : World} {l : List Value} {T : Nat} {B U : HalfSt} (h : Mid pb o t0 w0 tag w l T B U) (hlen : B.L.length = B.M.length + 1) {m : Nat} {o' : Value} (hg : Grew 3 B.M.length (intV m) w w' B.o o') (hl : Line w' 3 o' (B.M.length + 1) (fun j => if j < B.M.length then intV (B.M.getD j 0) else intV m))
    (hn : Line w 5 (B.L.getD B.M.length undef) (lenOf (B.L.getD B.M.length undef)) (bmk m)) (htg : ∀ g, (B.L.getD B.M.length undef).ownBlock = some g → tag g = 10 + 2 * m) (hz : lenOf (B.L.getD B.M.length undef) ≤ 33554432) (hmT : m ≤ T) (hf : B.n ≤ B.M.length → lenOf (B.L.getD B.M.length undef) ≤ 16777216) :
    Mid pb o t0 w0 (tagAt tag o' 2) w' l T { B with o := o', M := B.M ++ [m] } U :=
  ⟨Grew.flds h.fl hg h.hb.to' (by decide) h.tp, h.len, h.hb.addO (by decide) hlen hg hl hn htg hz hmT hf, h.hu.growElse (by decide) (by decide) (c' := 0) (by decide) hg h.hb.to' (.inr (.inl rfl)), tagAt_under hg h.un h.hb.ro, tagAt_pb hg h.hb.to' h.fl.lt h.tp, h.no.trans (Noted.grew h.fl.lt h.tp (by decide) hg h.hb.to')⟩
theorem Mid.addUo {pb o : Nat} {t0 : Nat → Nat} {w0 : World} {tag : Nat → Nat} {w w' : World} {l : List Value} {T : Nat} {B U : HalfSt} (h : Mid pb o t0 w0 tag w l T B U) (hlen : U.L.length = U.M.length + 1) {m : Nat} {o' : Value} (hg : Grew 3 U.M.length (intV m) w w' U.o o') (hl : Line w' 3 o' (U.M.length + 1) (fun j => if j < U.M.length then intV (U.M.getD j 0) else intV m))
    (hn : Line w 153 (U.L.getD U.M.length undef) (lenOf (U.L.getD U.M.length undef)) (wmk m)) (htg : ∀ g, (U.L.getD U.M.length undef).ownBlock = some g → tag g = 10 + 2 * m + 1) (hz : lenOf (U.L.getD U.M.length undef) ≤ 33554432) (hmT : m ≤ T) (hf : U.n ≤ U.M.length → lenOf (U.L.getD U.M.length undef) ≤ 16777216) :
    Mid pb o t0 w0 (tagAt tag o' 4) w' l T B { U with o := o', M := U.M ++ [m] } :=
  ⟨Grew.flds h.fl hg h.hu.to' (by decide) h.tp, h.len, h.hb.growElse (by decide) (by decide) (c' := 1) (by decide) hg h.hu.to' (.inr (.inl rfl)), h.hu.addO (by decide) hlen hg hl hn htg hz hmT hf, tagAt_under hg h.un h.hu.ro, tagAt_pb hg h.hu.to' h.fl.lt h.tp, h.no.trans (Noted.grew h.fl.lt h.tp (by decide) hg h.hu.to')⟩
theorem Mid.growB {pb o : Nat} {t0 : Nat → Nat} {w0 : World} {tag : Nat → Nat} {w w' : World} {l : List Value} {T : Nat} {B U : HalfSt} (h : Mid pb o t0 w0 tag w l T B U) {m n : Nat} {g g' : Value} {f : Nat → Value} (hg : Grew 5 n (bmk m n) w w' g g') (hv : ∀ q, g.ownBlock = some q → tag q = 10 + 2 * m) (hl : Line w 5 g n f) : Mid pb o t0 w0 (tagAt tag g' (10 + 2 * m)) w' l T B U :=
  ⟨Grew.flds h.fl hg hv (by omega) h.tp, h.len, h.hb.growIn (by decide) hg hv, h.hu.growElse (by decide) (by decide) (c' := 0) (by decide) hg hv (.inr (.inr ⟨m, rfl⟩)), tagAt_under hg h.un hl, tagAt_pb hg hv h.fl.lt h.tp, h.no.trans (Noted.grew h.fl.lt h.tp (by omega) hg hv)⟩
theorem Mid.growU {pb o : Nat} {t0 : Nat → Nat} {w0 : World} {tag : Nat → Nat} {w w' : World} {l : List Value} {T : Nat} {B U : HalfSt} (h : Mid pb o t0 w0 tag w l T B U) {m n : Nat} {g g' : Value} {f : Nat → Value} (hg : Grew 153 n (wmk m n) w w' g g') (hv : ∀ q, g.ownBlock = some q → tag q = 10 + 2 * m + 1) (hl : Line w 153 g n f) : Mid pb o t0 w0 (tagAt tag g' (10 + 2 * m + 1)) w' l T B U :=
  ⟨Grew.flds h.fl hg hv (by omega) h.tp, h.len, h.hb.growElse (by decide) (by decide) (c' := 1) (by decide) hg hv (.inr (.inr ⟨m, rfl⟩)), h.hu.growIn (by decide) hg hv, tagAt_under hg h.un hl, tagAt_pb hg hv h.fl.lt h.tp, h.no.trans (Noted.grew h.fl.lt h.tp (by omega) hg hv)⟩
end Go.Proofs.YtecfgbjnjgjkoaaGreatDoor.Bk
