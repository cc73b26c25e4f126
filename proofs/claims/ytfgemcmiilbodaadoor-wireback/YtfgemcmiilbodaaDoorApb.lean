/- bytes appended: whatever lies at the source. -/
import Derived.Test.YtfgemcmiilbodaaDoorByv
namespace Go.Proofs.YtfgemcmiilbodaaDoor
open Go.ChangeShapes Go.WideShapes Go.ChangeAt Go.RowKit
set_option linter.unusedVariables false
set_option linter.unusedSimpArgs false
set_option maxRecDepth 100000
set_option maxHeartbeats 4000000

theorem run_append_rws_at {P : Program} {w : World} (ty t e : TypeId) (i : TypeInfo) (z : Value) (s bytes : Nat) (ht : P.underlying t = some (.slice e)) (hi : P.info? e = some i) (hz : i.zero = some z) (hsize : i.size = s) (hby : i.bytes = bytes) (hzs : z.cells.size = s)
    (tb : TypeId) (v : Value) (n : Nat) (f : Nat → Value) (hown : Rws w tb s v n f) (hfull : tb = e ∨ ∀ b cap, v = .slice (some b) n cap → cap = n) (ad : Addr) (m mc : Nat) (news : List Value) (hm : 0 < m) (hl : news.length = m * s) (hc : ∀ j x, news[j]? = some x → w.cell? (ad.add j) = some x) (h1 : ∀ x ∈ news, x.oneCell' = true) (hn : (n + m) * bytes ≤ 140737488355328) (hn2 : n + m ≤ 9007199254740992) :
    ∃ v' w', (Builtin.append_ #[t, t] ty #[v, .slice (some ad) m mc]).run P w = .ok v' w' ∧ Rws w' e s v' (n + m) (fun k => if k < n * s then f k else news.getD (k - n * s) undef) ∧ Gr e (n * s) news.length w w' v v' := by
  have hnews := hc
  have hml : n + m ≤ maxLen := by simp only [maxLen]; omega
  have hnm : (n + m) * s = n * s + m * s := Nat.add_mul _ _ _
  rcases hown with ⟨rfl, rfl⟩ | ⟨g, cap, cur, rfl, hg, hnc, hcm, hcs, hf⟩
  · simp only [Nat.zero_add, Nat.zero_mul, Nat.not_lt_zero, if_false, Nat.sub_zero] at *
    have hr := run_append_nil (P := P) w t ty e i z ht hi hz ad m mc news (by rw [hsize]; exact hl) hnews hm (by omega) (by rw [hby]; omega)
    have hge := grownCap_ge w m 0 e
    have hcm2 : grownCap w m 0 e ≤ maxLen := grownCap_le_maxLen w m 0 e hml
    refine ⟨_, _, hr, .inr ⟨w.heap.size, _, _, rfl, heap_alloc_new w.drew _, hge, hcm2, ?_, fun j hj => ?_⟩, ⟨rfl, rfl, rfl, .inr ⟨rfl, by simp, fun k hk => heap_alloc_old w.drew _ hk⟩⟩⟩
    · simp only [Array.size_append, List.size_toArray, size_zeroCells, hzs, hl]
      rw [← Nat.add_mul]
      congr 1
      omega
    · show _ = some (news.getD j undef)
      rw [Array.getElem?_append_left (by rw [List.size_toArray, hl]; exact hj), List.getElem?_toArray, List.getD_eq_getElem?_getD, List.getElem?_eq_getElem (by omega)]
      rfl
  · by_cases hroom : n + m ≤ cap
    · have hte : tb = e := by
        rcases hfull with h | h
        · exact h
        · have := h _ _ rfl; omega
      subst hte
      have hcap : (n + m) * s ≤ cap * s := Nat.mul_le_mul_right _ hroom
      have hr := run_append_room (P := P) w t ty tb i ht hi g n cap cur hg ad m mc news (by rw [hsize]; exact hl) hnews h1 hroom (by rw [hsize, hcs, hl]; omega)
      rw [hsize] at hr
      have hlt : (cur.toList.take (n * s)).length = n * s := by simp; omega
      have hcur : ∀ j, j < n * s ∨ n * s + news.length ≤ j → (cur.toList.take (n * s) ++ news ++ cur.toList.drop (n * s + news.length)).toArray[j]? = cur[j]? := by
        intro j hj
        rw [List.getElem?_toArray]
        rcases hj with hj | hj
        · rw [List.append_assoc, List.getElem?_append_left (by omega), List.getElem?_take, if_pos hj]
          simp
        · rw [List.getElem?_append_right (by simp only [List.length_append, hlt]; omega), List.length_append, hlt, List.getElem?_drop]
          rw [show n * s + news.length + (j - (n * s + news.length)) = j by omega]
          simp
      have hnew : ∀ j, n * s ≤ j → j < n * s + news.length → (cur.toList.take (n * s) ++ news ++ cur.toList.drop (n * s + news.length)).toArray[j]? = some (news.getD (j - n * s) undef) := by
        intro j hj hj2
        rw [List.getElem?_toArray, List.append_assoc, List.getElem?_append_right (by omega), hlt, List.getElem?_append_left (by omega), List.getD_eq_getElem?_getD, List.getElem?_eq_getElem (by omega)]
        rfl
      have hsz : (cur.toList.take (n * s) ++ news ++ cur.toList.drop (n * s + news.length)).toArray.size = cur.size := by
        simp only [List.size_toArray, List.length_append, hlt, List.length_drop, Array.length_toList]
        omega
      have hblk := setRow_heap w g cur (cur.toList.take (n * s) ++ news ++ cur.toList.drop (n * s + news.length)).toArray tb _ hg
      generalize (cur.toList.take (n * s) ++ news ++ cur.toList.drop (n * s + news.length)).toArray = cur' at *
      refine ⟨_, _, hr, .inr ⟨g, cap, cur', rfl, hblk, hroom, hcm, by omega, fun j hj => ?_⟩, ⟨rfl, rfl, rfl, .inl ⟨g, cur, cur', rfl, rfl, hg, hblk, hsz, hcur, by simp [World.setRow], fun k hk => setRow_other w g k _ hk⟩⟩⟩
      by_cases e1 : j < n * s
      · simp only [if_pos e1]
        rw [hcur j (.inl e1), hf j e1]
      · simp only [if_neg e1]
        exact hnew j (by omega) (by omega)
    · have hol : (cur.toList.take (n * s)).length = n * s := by
        have := Nat.mul_le_mul_right s hnc
        simp; omega
      have holds : ∀ j x, (cur.toList.take (n * s))[j]? = some x → w.cell? ((⟨g, 0, none⟩ : Addr).add j) = some x := by
        intro j x hj
        rw [addr0]
        simp only [World.cell?, hg]
        rw [List.getElem?_take] at hj
        split at hj
        · simpa using hj
        · cases hj
      have hr := run_append_grow (P := P) w t ty e i z ht hi hz ⟨g, 0, none⟩ n cap (cur.toList.take (n * s)) (by rw [hsize]; omega) holds ad m mc news (by rw [hsize]; exact hl) hnews (by omega) (by omega) (by rw [hby]; exact growslice_fits (by omega) hn)
      have hge := grownCap_ge w (n + m) cap e
      have hcm2 : grownCap w (n + m) cap e ≤ maxLen := grownCap_le_maxLen w (n + m) cap e hml
      refine ⟨_, _, hr, .inr ⟨w.heap.size, _, _, rfl, heap_alloc_new w.drew _, hge, hcm2, ?_, fun j hj => ?_⟩, ⟨rfl, rfl, rfl, .inr ⟨rfl, by simp, fun k hk => heap_alloc_old w.drew _ hk⟩⟩⟩
      · simp only [Array.size_append, List.size_toArray, size_zeroCells, hzs, hol, hl]
        rw [← Nat.add_mul, ← Nat.add_mul]
        congr 1
        omega
      · rw [Array.getElem?_append_left (by simp only [Array.size_append, List.size_toArray, hol, hl]; omega)]
        by_cases e1 : j < n * s
        · simp only [if_pos e1]
          rw [← hf j e1, Array.getElem?_append_left (by simp only [List.size_toArray, hol]; omega), List.getElem?_toArray, List.getElem?_take, if_pos e1]
          simp
        · simp only [if_neg e1]
          rw [Array.getElem?_append_right (by simp only [List.size_toArray, hol]; omega), List.size_toArray, hol, List.getElem?_toArray, List.getD_eq_getElem?_getD, List.getElem?_eq_getElem (by omega)]
          rfl
/-- what a list that grew left as it was -/
structure Gw (w w' : World) (v v' : Value) : Prop where
  os : w'.os = w.os
  tape : w'.tape = w.tape
  output : w'.output = w.output
  size : w.heap.size ≤ w'.heap.size
  oth : ∀ k, k < w.heap.size → v.ownBlock ≠ some k → w'.heap[k]? = w.heap[k]?
  own : ∀ g, v'.ownBlock = some g → v.ownBlock = some g ∨ w.heap.size ≤ g
theorem Gr.gw {e : TypeId} {c m : Nat} {w w' : World} {v v' : Value} (h : Gr e c m w w' v v') : Gw w w' v v' := ⟨h.os, h.tape, h.output, h.size, fun k hk hv => h.other k hk hv, fun g hg => by
  rcases h.how with ⟨g', _, _, h1, h3, _⟩ | ⟨h3, _⟩
  · rw [hg] at h3; cases h3; exact .inl h1
  · rw [hg] at h3; cases h3; exact .inr (Nat.le_refl _)⟩
theorem Gw.refl (w : World) (v : Value) : Gw w w v v := ⟨rfl, rfl, rfl, Nat.le_refl _, fun _ _ _ => rfl, fun g hg => .inl hg⟩
theorem run_append_zero {P : Program} {w : World} (ty t e : TypeId) (i : TypeInfo) (ht : P.underlying t = some (.slice e)) (hi : P.info? e = some i) (d : Option Addr) (n cap : Nat) (hn : n ≤ cap) (a : Option Addr) (c : Nat) :
    (Builtin.append_ #[t, t] ty #[.slice d n cap, .slice a 0 c]).run P w = .ok (.slice d n cap) w := by
  cases a with
  | none => cases d <;> simp [Builtin.append_, run_underlying ht, sizeOf, typeInfo, hi, Builtin.lenOf, Builtin.firstCells, storeCells, hn]
  | some x =>
    have hf := run_firstCells_some (P := P) w i.size 0 x 0 c [] (by simp) (fun j v h => by simp at h)
    cases d <;> simp [Builtin.append_, run_underlying ht, sizeOf, typeInfo, hi, Builtin.lenOf, hf, storeCells, hn]
theorem run_append_bytes {P : Program} {w : World} (ty t : TypeId) (i : TypeInfo) (ht : P.underlying t = some (.slice 5)) (hi : P.info? 5 = some i) (hz : i.zero = some (.int .u8 0)) (hsize : i.size = 1) (hby : i.bytes = 1)
    (v : Value) (n : Nat) (f : Nat → Value) (h : Rws w 5 1 v n f) (a : Option Addr) (c : Nat) (l : List Nat) (hB : Bytes w a l) (hn : n + l.length ≤ 140737488355328) :
    ∃ v' w', (Builtin.append_ #[t, t] ty #[v, .slice a l.length c]).run P w = .ok v' w' ∧ Rws w' 5 1 v' (n + l.length) (fun k => if k < n then f k else byV l (k - n)) ∧ Gw w w' v v' := by
  rcases List.eq_nil_or_concat l with rfl | hl
  · obtain ⟨d, cap, rfl⟩ := h.shape
    have hc : n ≤ cap := by
      rcases h with ⟨e, h0⟩ | ⟨b, c2, cur, e, _, h2, _⟩
      · omega
      · cases e; exact h2
    refine ⟨_, _, run_append_zero ty t 5 i ht hi d n cap hc a c, ?_, Gw.refl _ _⟩
    exact h.congr (fun k hk => by rw [if_pos (by omega)])
  · have hp : 0 < l.length := by obtain ⟨L, b, rfl⟩ := hl; simp
    rcases hB with rfl | ⟨b, off, rfl, hb, hc⟩
    · simp at hp
    · obtain ⟨v', w', r1, r2, r3⟩ := run_append_rws_at (P := P) (w := w) ty t 5 i (.int .u8 0) 1 1 ht hi hz hsize hby rfl 5 v n f h (.inl rfl) ⟨b, off, none⟩ l.length c (cellsOf l) hp (by unfold cellsOf; simp) (fun j x hx => by
        have hj : j < l.length := by have := (List.getElem?_eq_some_iff.1 hx).1; simpa [cellsOf] using this
        rw [add_plain, hc j hj]
        unfold cellsOf at hx
        rw [List.getElem?_map, List.getElem?_eq_getElem hj] at hx
        rw [List.getD_eq_getElem?_getD, List.getElem?_eq_getElem hj]
        exact hx) (fun x hx => by
        unfold cellsOf at hx
        obtain ⟨y, _, rfl⟩ := List.mem_map.1 hx
        rfl) (by omega) (by omega)
      refine ⟨v', w', r1, r2.congr (fun k hk => ?_), r3.gw⟩
      by_cases q : k < n
      · rw [if_pos (by omega), if_pos q]
      · rw [if_neg (by omega), if_neg q]
        have hj : k - n * 1 < l.length := by omega
        unfold cellsOf byV
        rw [List.getD_eq_getElem?_getD, List.getElem?_map, List.getElem?_eq_getElem hj, List.getD_eq_getElem?_getD, show k - n = k - n * 1 by omega, List.getElem?_eq_getElem hj]
        rfl
theorem append_bytes {P : Program} {w : World} {ops : Array Oper} {rest : List Oper} {o : Oper} {act : Act} {Q : Exit → Act → World → Prop} (hgd : o.guard = none) (so x : Operand) (t : TypeId) (ho : o.op = .call { callee := .builtin .append, args := #[so, x], argTypes := #[t, t] })
    (i : TypeInfo) (ht : P.underlying t = some (.slice 5)) (hi : P.info? 5 = some i) (hz : i.zero = some (.int .u8 0)) (hsize : i.size = 1) (hby : i.bytes = 1)
    (v : Value) (n : Nat) (f : Nat → Value) (hs : act.eval so = v) (h : Rws w 5 1 v n f) (a : Option Addr) (c : Nat) (l : List Nat) (hx : act.eval x = .slice a l.length c) (hB : Bytes w a l) (hn : n + l.length ≤ 140737488355328)
    (hk : ∀ v' w', Rws w' 5 1 v' (n + l.length) (fun k => if k < n then f k else byV l (k - n)) → Gw w w' v v' → wpList P ops Q rest (act.put o.dst v') w') : wpList P ops Q (o :: rest) act w := by
  refine wpList_plain hgd fun _ hK => ?_
  obtain ⟨v', w', hr, h2, h3⟩ := run_append_bytes (P := P) (w := w) o.type t i ht hi hz hsize hby v n f h a c l hB hn
  exact wp_appended so x t ho _ _ hs hx _ _ hr (hK _ _ (hk v' w' h2 h3))
theorem step_append_bytes {P : Program} {ops : Array Oper} {o : Oper} {act : Act} {w : World} {K : Act → World → Prop} {Q : Exit → Act → World → Prop} {E : Prop} (hg : o.guard = none) (so x : Operand) (t : TypeId) (ho : o.op = .call { callee := .builtin .append, args := #[so, x], argTypes := #[t, t] })
    (i : TypeInfo) (ht : P.underlying t = some (.slice 5)) (hi : P.info? 5 = some i) (hz : i.zero = some (.int .u8 0)) (hsize : i.size = 1) (hby : i.bytes = 1)
    (v : Value) (n : Nat) (f : Nat → Value) (hs : act.eval so = v) (h : Rws w 5 1 v n f) (a : Option Addr) (c : Nat) (l : List Nat) (hx : act.eval x = .slice a l.length c) (hB : Bytes w a l) (hn : n + l.length ≤ 140737488355328)
    (hk : ∀ v' w', Rws w' 5 1 v' (n + l.length) (fun k => if k < n then f k else byV l (k - n)) → Gw w w' v v' → K (act.put o.dst v') w') : if Region.wanted o (yielded ops act.tmps) = true then Oper.wp P o act w K Q else E := by
  have hw : Region.wanted o (yielded ops act.tmps) = true := by simp [Region.wanted, hg]
  rw [if_pos hw]
  obtain ⟨v', w', hr, h2, h3⟩ := run_append_bytes (P := P) (w := w) o.type t i ht hi hz hsize hby v n f h a c l hB hn
  exact wp_appended so x t ho _ _ hs hx _ _ hr (hk v' w' h2 h3)
theorem Rws.none' {w : World} {t : TypeId} {v : Value} {n : Nat} {f : Nat → Value} (h : Rws w t 1 v n f) (f' : Nat → Value) : ∃ a cap, v = .slice a n cap ∧ Rws w t 1 (.slice a 0 cap) 0 f' := by
  rcases h with ⟨rfl, h0⟩ | ⟨b, cap, cur, rfl, h1, h2, h3, h4, h5⟩
  · exact ⟨none, 0, by rw [h0], .inl ⟨rfl, rfl⟩⟩
  · exact ⟨_, cap, rfl, .inr ⟨b, cap, cur, rfl, h1, Nat.zero_le _, h3, h4, fun k hk => by omega⟩⟩
/-- what has changed lies in S, or is new -/
structure Kept (S : Nat → Prop) (w w' : World) : Prop where
  os : w'.os = w.os
  tape : w'.tape = w.tape
  output : w'.output = w.output
  size : w.heap.size ≤ w'.heap.size
  blk : ∀ b, b < w.heap.size → ¬ S b → w'.heap[b]? = w.heap[b]?
theorem Kept.refl (S : Nat → Prop) (w : World) : Kept S w w := ⟨rfl, rfl, rfl, Nat.le_refl _, fun _ _ _ => rfl⟩
theorem Kept.trans {S : Nat → Prop} {w w' w'' : World} (h : Kept S w w') (h' : Kept S w' w'') : Kept S w w'' := ⟨h'.os.trans h.os, h'.tape.trans h.tape, h'.output.trans h.output, Nat.le_trans h.size h'.size, fun b hb hS => (h'.blk b (Nat.lt_of_lt_of_le hb h.size) hS).trans (h.blk b hb hS)⟩
theorem Kept.below {S : Nat → Prop} {w w' : World} (h : Below w.heap.size w w') : Kept S w w' := ⟨h.os, h.tape, h.output, h.size, fun b hb _ => h.block b hb⟩
theorem Gw.kept {w w' : World} {v v' : Value} {S : Nat → Prop} (h : Gw w w' v v') (hS : ∀ g, v.ownBlock = some g → S g) : Kept S w w' := ⟨h.os, h.tape, h.output, h.size, fun b hb hs => h.oth b hb (fun e => hs (hS b e))⟩
theorem Kept.put {S : Nat → Prop} {w : World} {g k : Nat} {u : Value} (hg : S g) : Kept S w (w.setCell ⟨g, k, none⟩ u) := ⟨rfl, rfl, rfl, by simp only [World.setCell, Array.size_modify]; exact Nat.le_refl _, fun b hb hs => setCell_else _ _ _ _ _ (fun e => hs (by rw [e]; exact hg))⟩
end Go.Proofs.YtfgemcmiilbodaaDoor
