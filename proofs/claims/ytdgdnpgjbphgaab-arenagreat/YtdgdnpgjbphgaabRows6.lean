/- Rows of structs in memory of their own. -/
import Derived.Test.YtdgdnpgjbphgaabBookTake
namespace Go.Proofs.Ytdgdnpgjbphgaab
open Go.ChangeShapes Go.WideShapes Go.ChangeAt Go.RowKit
set_option linter.unusedVariables false
set_option maxRecDepth 100000
set_option maxHeartbeats 2000000

/-- a slice of elements of sz cells each, whose memory begins a block (or that is nil) -/
def Wide (w : World) (e : TypeId) (sz : Nat) (v : Value) (n : Nat) (f : Nat → Value) : Prop :=
  (v = .slice none 0 0 ∧ n = 0) ∨ ∃ g cap cur, v = .slice (some ⟨g, 0, none⟩) n cap ∧ w.heap[g]? = some (.cells cur e (0, 0)) ∧ n ≤ cap ∧ cap ≤ maxLen ∧ cur.size = cap * sz ∧ ∀ j, j < n * sz → cur[j]? = some (f j)
theorem Wide.same {w w' : World} {e : TypeId} {sz : Nat} {v : Value} {n : Nat} {f : Nat → Value} (h : Wide w e sz v n f) (hb : ∀ g, v.ownBlock = some g → w'.heap[g]? = w.heap[g]?) : Wide w' e sz v n f := by
  rcases h with h | ⟨g, cap, cur, rfl, hg, r⟩
  · exact .inl h
  · exact .inr ⟨g, cap, cur, rfl, by rw [hb g rfl]; exact hg, r⟩
theorem Wide.lt {w : World} {e : TypeId} {sz : Nat} {v : Value} {n : Nat} {f : Nat → Value} (h : Wide w e sz v n f) : ∀ g, v.ownBlock = some g → g < w.heap.size := by
  intro k hk
  rcases h with ⟨rfl, _⟩ | ⟨g, cap, cur, rfl, hg, r⟩
  · simp [Value.ownBlock] at hk
  · simp [Value.ownBlock] at hk
    subst hk
    exact (Array.getElem?_eq_some_iff.1 hg).1
theorem Wide.shape {w : World} {e : TypeId} {sz : Nat} {v : Value} {n : Nat} {f : Nat → Value} (h : Wide w e sz v n f) : ∃ a cap, v = .slice a n cap := by
  rcases h with ⟨rfl, h0⟩ | ⟨g, cap, cur, rfl, hg, r⟩
  · exact ⟨none, 0, by rw [h0]⟩
  · exact ⟨_, cap, rfl⟩
theorem Wide.at {w : World} {e : TypeId} {sz : Nat} {v : Value} {n : Nat} {f : Nat → Value} (h : Wide w e sz v n f) (hn : 0 < n) : ∃ g cap, v = .slice (some ⟨g, 0, none⟩) n cap ∧ v.ownBlock = some g ∧ ∀ j, j < n * sz → w.cell? ⟨g, j, none⟩ = some (f j) ∧ w.frozen? ⟨g, j, none⟩ = false := by
  rcases h with ⟨rfl, h0⟩ | ⟨g, cap, cur, rfl, hg, hn, hc, hs, hf⟩
  · omega
  · refine ⟨g, cap, rfl, rfl, fun j hj => ⟨?_, ?_⟩⟩
    · simp only [World.cell?, hg]
      exact hf j hj
    · simp only [World.frozen?, hg]
      simp
theorem Wide.congr {w : World} {e : TypeId} {sz : Nat} {v : Value} {n : Nat} {f f' : Nat → Value} (h : Wide w e sz v n f) (hf : ∀ j, j < n * sz → f j = f' j) : Wide w e sz v n f' := by
  rcases h with h | ⟨g, cap, cur, rfl, hg, hn, hc, hs, hh⟩
  · exact .inl h
  · exact .inr ⟨g, cap, cur, rfl, hg, hn, hc, hs, fun j hj => by rw [hh j hj, hf j hj]⟩
theorem Wide.put {w : World} {e : TypeId} {sz : Nat} {v : Value} {n : Nat} {f : Nat → Value} (h : Wide w e sz v n f) {g : Nat} (hg : v.ownBlock = some g) (k : Nat) (u : Value) (hk : k < n * sz) : Wide (w.setCell ⟨g, k, none⟩ u) e sz v n (fun j => if j = k then u else f j) := by
  rcases h with ⟨rfl, h0⟩ | ⟨g', cap, cur, rfl, hg', hn, hc, hs, hh⟩
  · subst h0; omega
  · simp [Value.ownBlock] at hg
    subst hg
    have hcap := Nat.mul_le_mul_right sz hn
    refine .inr ⟨g', cap, cur.setIfInBounds k u, rfl, setCell_block w g' k u cur e _ hg', hn, hc, by simpa using hs, fun j hj => ?_⟩
    rw [Array.getElem?_setIfInBounds]
    show _ = some (if j = k then u else f j)
    by_cases e1 : k = j
    · subst e1
      rw [if_pos rfl, if_pos (by omega), if_pos rfl]
    · rw [if_neg e1, if_neg (fun h => e1 h.symm), hh j hj]
/-- one element more: in the same block, or in a new one -/
theorem run_append_wide {P : Program} {w : World} (ty t e : TypeId) (i : TypeInfo) (z : Value) (sz bytes : Nat) (ht : P.underlying t = some (.slice e)) (hi : P.info? e = some i) (hz : i.zero = some z) (hsize : i.size = sz) (hby : i.bytes = bytes) (hzs : z.cells.size = sz)
    (v : Value) (n : Nat) (f : Nat → Value) (hown : Wide w e sz v n f) (b : Nat) (us : List Value) (hu : us.length = sz) (hc : ∀ j x, us[j]? = some x → w.cell? ⟨b, j, none⟩ = some x) (h1 : ∀ x ∈ us, x.oneCell' = true) (hn : (n + 1) * bytes ≤ 140737488355328) (hn2 : n + 1 ≤ 9007199254740992) :
    ∃ v' w', (Builtin.append_ #[t, t] ty #[v, .slice (some ⟨b, 0, none⟩) 1 1]).run P w = .ok v' w' ∧ Wide w' e sz v' (n + 1) (fun j => if j < n * sz then f j else us.getD (j - n * sz) undef) ∧ w'.os = w.os ∧ w'.tape = w.tape ∧ w'.output = w.output ∧
      ((∃ g, v.ownBlock = some g ∧ v'.ownBlock = some g ∧ w'.heap.size = w.heap.size ∧ ∀ k, k ≠ g → w'.heap[k]? = w.heap[k]?) ∨ (v'.ownBlock = some w.heap.size ∧ w'.heap.size = w.heap.size + 1 ∧ ∀ k, k < w.heap.size → w'.heap[k]? = w.heap[k]?)) := by
  have hnews : ∀ j x, us[j]? = some x → w.cell? ((⟨b, 0, none⟩ : Addr).add j) = some x := by
    intro j x hj
    have hadd : (⟨b, 0, none⟩ : Addr).add j = ⟨b, j, none⟩ := by unfold Addr.add; split <;> simp_all
    rw [hadd]
    exact hc j x hj
  have hml : n + 1 ≤ maxLen := by simp only [maxLen]; omega
  have hus : us.length = 1 * i.size := by rw [hsize]; omega
  have hget : ∀ j, j < sz → us[j]? = some (us.getD j undef) := fun j hj => by
    rw [List.getD_eq_getElem?_getD, List.getElem?_eq_getElem (by omega)]; rfl
  rcases hown with ⟨rfl, rfl⟩ | ⟨g, cap, cur, rfl, hg, hnc, hcm, hcs, hf⟩
  · have hr := run_append_nil (P := P) w t ty e i z ht hi hz ⟨b, 0, none⟩ 1 1 us hus hnews (by omega) (by omega) (by rw [hby]; omega)
    have hge := grownCap_ge w 1 0 e
    have hcm2 : grownCap w 1 0 e ≤ maxLen := grownCap_le_maxLen w 1 0 e hml
    refine ⟨_, _, hr, .inr ⟨w.heap.size, _, _, rfl, heap_alloc_new w.drew _, hge, hcm2, ?_, fun j hj => ?_⟩, rfl, rfl, rfl, .inr ⟨rfl, by simp, fun k hk => heap_alloc_old w.drew _ hk⟩⟩
    · simp only [Array.size_append, List.size_toArray, size_zeroCells, hzs, hu]
      have := Nat.sub_add_cancel hge
      rw [← this]
      simp [Nat.add_mul, Nat.add_comm]
    · show _ = some (if j < 0 * sz then f j else us.getD (j - 0 * sz) undef)
      rw [Nat.zero_mul, if_neg (by omega), Nat.sub_zero, Array.getElem?_append_left (by simp; omega), List.getElem?_toArray]
      exact hget j (by omega)
  · by_cases hroom : n + 1 ≤ cap
    · have hcap := Nat.mul_le_mul_right sz hroom
      rw [Nat.add_mul, Nat.one_mul] at hcap
      have hr := run_append_room (P := P) w t ty e i ht hi g n cap cur hg ⟨b, 0, none⟩ 1 1 us hus hnews h1 hroom (by rw [hsize]; omega)
      rw [hsize] at hr
      have hcur : ∀ j, (cur.toList.take (n * sz) ++ us ++ cur.toList.drop (n * sz + us.length)).toArray[j]? = if n * sz ≤ j ∧ j < n * sz + sz then us[j - n * sz]? else cur[j]? := by
        intro j
        have hl : (cur.toList.take (n * sz)).length = n * sz := by simp; omega
        rw [List.getElem?_toArray, List.append_assoc]
        by_cases hlt : j < n * sz
        · rw [List.getElem?_append_left (by omega), List.getElem?_take, if_pos hlt, if_neg (by omega)]
          simp
        · rw [List.getElem?_append_right (by omega), hl]
          by_cases h2 : j < n * sz + sz
          · rw [if_pos ⟨by omega, h2⟩, List.getElem?_append_left (by omega)]
          · rw [if_neg (by omega), List.getElem?_append_right (by omega), List.getElem?_drop, hu]
            rw [show n * sz + sz + (j - n * sz - sz) = j by omega]
            simp
      have hsz : (cur.toList.take (n * sz) ++ us ++ cur.toList.drop (n * sz + us.length)).toArray.size = cur.size := by
        simp only [List.size_toArray, List.length_append, List.length_take, List.length_drop, Array.length_toList]
        omega
      have hblk := setRow_heap w g cur (cur.toList.take (n * sz) ++ us ++ cur.toList.drop (n * sz + us.length)).toArray e _ hg
      generalize (cur.toList.take (n * sz) ++ us ++ cur.toList.drop (n * sz + us.length)).toArray = cur' at *
      refine ⟨_, _, hr, .inr ⟨g, cap, cur', rfl, hblk, hroom, hcm, by omega, fun j hj => ?_⟩, rfl, rfl, rfl, .inl ⟨g, rfl, rfl, by simp [World.setRow], fun k hk => setRow_other w g k _ hk⟩⟩
      rw [hcur]
      show _ = some (if j < n * sz then f j else us.getD (j - n * sz) undef)
      rw [Nat.add_mul, Nat.one_mul] at hj
      by_cases e1 : j < n * sz
      · rw [if_neg (by omega), if_pos e1, hf j e1]
      · rw [if_pos ⟨by omega, hj⟩, if_neg e1]
        exact hget _ (by omega)
    · have hcl : cap = n := by omega
      subst hcl
      have hol : (cur.toList.take (cap * sz)).length = cap * sz := by simp; omega
      have holds : ∀ j x, (cur.toList.take (cap * sz))[j]? = some x → w.cell? ((⟨g, 0, none⟩ : Addr).add j) = some x := by
        intro j x hj
        have hadd : (⟨g, 0, none⟩ : Addr).add j = ⟨g, j, none⟩ := by unfold Addr.add; split <;> simp_all
        rw [hadd]
        simp only [World.cell?, hg]
        rw [List.getElem?_take] at hj
        split at hj
        · simpa using hj
        · cases hj
      have hr := run_append_grow (P := P) w t ty e i z ht hi hz ⟨g, 0, none⟩ cap cap (cur.toList.take (cap * sz)) (by rw [hsize]; omega) holds ⟨b, 0, none⟩ 1 1 us hus hnews (by omega) (by omega) (by rw [hby]; exact growslice_fits (by omega) hn)
      have hge := grownCap_ge w (cap + 1) cap e
      have hcm2 : grownCap w (cap + 1) cap e ≤ maxLen := grownCap_le_maxLen w (cap + 1) cap e hml
      refine ⟨_, _, hr, .inr ⟨w.heap.size, _, _, rfl, heap_alloc_new w.drew _, hge, hcm2, ?_, fun j hj => ?_⟩, rfl, rfl, rfl, .inr ⟨rfl, by simp, fun k hk => heap_alloc_old w.drew _ hk⟩⟩
      · simp only [Array.size_append, List.size_toArray, size_zeroCells, hzs, hol, hu]
        have := Nat.sub_add_cancel hge
        rw [← this]
        simp [Nat.add_mul, Nat.add_comm]
      · show _ = some (if j < cap * sz then f j else us.getD (j - cap * sz) undef)
        rw [Nat.add_mul, Nat.one_mul] at hj
        rw [Array.getElem?_append_left (by simp; omega)]
        by_cases e1 : j < cap * sz
        · rw [if_pos e1, ← hf j e1, Array.getElem?_append_left (by simp; omega), List.getElem?_toArray, List.getElem?_take, if_pos e1]
          simp
        · rw [if_neg e1, Array.getElem?_append_right (by simp; omega), List.getElem?_toArray]
          have : (cur.toList.take (cap * sz)).toArray.size = cap * sz := by simpa using hol
          rw [this]
          exact hget _ (by omega)
theorem append_wide {P : Program} {w : World} {ops : Array Oper} {rest : List Oper} {o : Oper} {a : Act} {Q : Exit → Act → World → Prop} (hgd : o.guard = none) (s x : Operand) (t : TypeId) (ho : o.op = .call { callee := .builtin .append, args := #[s, x], argTypes := #[t, t] })
    (e : TypeId) (i : TypeInfo) (z : Value) (sz bytes : Nat) (ht : P.underlying t = some (.slice e)) (hi : P.info? e = some i) (hz : i.zero = some z) (hsize : i.size = sz) (hby : i.bytes = bytes) (hzs : z.cells.size = sz)
    (v : Value) (n : Nat) (f : Nat → Value) (hs : a.eval s = v) (hown : Wide w e sz v n f) (b : Nat) (hx : a.eval x = .slice (some ⟨b, 0, none⟩) 1 1) (us : List Value) (hu : us.length = sz) (hc : ∀ j x, us[j]? = some x → w.cell? ⟨b, j, none⟩ = some x) (h1 : ∀ x ∈ us, x.oneCell' = true) (hn : (n + 1) * bytes ≤ 140737488355328) (hn2 : n + 1 ≤ 9007199254740992)
    (h : ∀ v' w', Wide w' e sz v' (n + 1) (fun j => if j < n * sz then f j else us.getD (j - n * sz) undef) → w'.os = w.os ∧ w'.tape = w.tape ∧ w'.output = w.output → ((∃ g, v.ownBlock = some g ∧ v'.ownBlock = some g ∧ w'.heap.size = w.heap.size ∧ ∀ k, k ≠ g → w'.heap[k]? = w.heap[k]?) ∨ (v'.ownBlock = some w.heap.size ∧ w'.heap.size = w.heap.size + 1 ∧ ∀ k, k < w.heap.size → w'.heap[k]? = w.heap[k]?)) → wpList P ops Q rest (a.put o.dst v') w') : wpList P ops Q (o :: rest) a w := by
  obtain ⟨v', w', hr, h2, q1, q2, q3, h3⟩ := run_append_wide (P := P) o.type t e i z sz bytes ht hi hz hsize hby hzs v n f hown b us hu hc h1 hn hn2
  exact wpList_plain hgd fun _ hK => wp_appended s x t ho _ _ hs hx _ _ hr (hK _ _ (h v' w' h2 ⟨q1, q2, q3⟩ h3))
end Go.Proofs.Ytdgdnpgjbphgaab
