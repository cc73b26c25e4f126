/- larderlaw3's Place: the plain side. -/
import Derived.Test.YtidfbelckdlbhabGreatShj
namespace Go.Proofs.YtidfbelckdlbhabGreat
open Go.ChangeShapes Go.WideShapes Go.ChangeAt Go.RowKit
set_option linter.unusedVariables false
set_option linter.unusedSimpArgs false
set_option maxRecDepth 100000
set_option maxHeartbeats 4000000

theorem run_append_rws_at {P : Program} {w : World} (ty t e : TypeId) (i : TypeInfo) (z : Value) (s bytes : Nat) (ht : P.underlying t = some (.slice e)) (hi : P.info? e = some i) (hz : i.zero = some z) (hsize : i.size = s) (hby : i.bytes = bytes) (hzs : z.cells.size = s)
    (tb : TypeId) (v : Value) (n : Nat) (f : Nat → Value) (hown : Rws w tb s v n f) (hfull : tb = e ∨ ∀ b cap, v = .slice (some b) n cap → cap = n) (ad : Addr) (m mc : Nat) (news : List Value) (hm : 0 < m) (hl : news.length = m * s) (hc : ∀ j x, news[j]? = some x → w.cell? (ad.add j) = some x) (h1 : ∀ x ∈ news, x.oneCell' = true) (hn : (n + m) * bytes ≤ 140737488355328) (hn2 : n + m ≤ 9007199254740992) :
    ∃ v' w', (Builtin.append_ #[t, t] ty #[v, .slice (some ad) m mc]).run P w = .ok v' w' ∧ Rws w' e s v' (n + m) (fun k => if k < n * s then f k else news.getD (k - n * s) undef) ∧ Gr e (n * s) news.length w w' v v' := by
  have hnews := hc
  have hml : n + m ≤ maxLen := by simp only [maxLen]; omega
  have hnm : (n + m) * s = n * s + m * s := Nat.add_mul _ _ _
  rcases hown with ⟨rfl, rfl⟩ | ⟨g, cap, cur, rfl, hg, hnc, hcm, hcs, hf⟩
  · simp only [Nat.zero_add, Nat.zero_mul, Nat.not_lt_zero, if_false, Nat.sub_zero] at *
    have hr := run_append_nil (P := P) w t ty e i z ht hi hz ad m mc news (by rw [hsize]; exact hl) hnews hm (by omega) (by rw [hby]; omega)
    have hge := grownCap_ge w m 0 e
    have hcm2 : grownCap w m 0 e ≤ maxLen := grownCap_le_maxLen w m 0 e hml
    refine ⟨_, _, hr, .inr ⟨w.heap.size, _, _, rfl, heap_alloc_new w.drew _, hge, hcm2, ?_, fun j hj => ?_⟩, ⟨rfl, rfl, rfl, .inr ⟨rfl, by simp, fun k hk => heap_alloc_old w.drew _ hk⟩⟩⟩
    · simp only [Array.size_append, List.size_toArray, size_zeroCells, hzs, hl]
      rw [← Nat.add_mul]
      congr 1
      omega
    · show _ = some (news.getD j undef)
      rw [Array.getElem?_append_left (by rw [List.size_toArray, hl]; exact hj), List.getElem?_toArray, List.getD_eq_getElem?_getD, List.getElem?_eq_getElem (by omega)]
      rfl
  · by_cases hroom : n + m ≤ cap
    · have hte : tb = e := by
        rcases hfull with h | h
        · exact h
        · have := h _ _ rfl; omega
      subst hte
      have hcap : (n + m) * s ≤ cap * s := Nat.mul_le_mul_right _ hroom
      have hr := run_append_room (P := P) w t ty tb i ht hi g n cap cur hg ad m mc news (by rw [hsize]; exact hl) hnews h1 hroom (by rw [hsize, hcs, hl]; omega)
      rw [hsize] at hr
      have hlt : (cur.toList.take (n * s)).length = n * s := by simp; omega
      have hcur : ∀ j, j < n * s ∨ n * s + news.length ≤ j → (cur.toList.take (n * s) ++ news ++ cur.toList.drop (n * s + news.length)).toArray[j]? = cur[j]? := by
        intro j hj
        rw [List.getElem?_toArray]
        rcases hj with hj | hj
        · rw [List.append_assoc, List.getElem?_append_left (by omega), List.getElem?_take, if_pos hj]
          simp
        · rw [List.getElem?_append_right (by simp only [List.length_append, hlt]; omega), List.length_append, hlt, List.getElem?_drop]
          rw [show n * s + news.length + (j - (n * s + news.length)) = j by omega]
          simp
      have hnew : ∀ j, n * s ≤ j → j < n * s + news.length → (cur.toList.take (n * s) ++ news ++ cur.toList.drop (n * s + news.length)).toArray[j]? = some (news.getD (j - n * s) undef) := by
        intro j hj hj2
        rw [List.getElem?_toArray, List.append_assoc, List.getElem?_append_right (by omega), hlt, List.getElem?_append_left (by omega), List.getD_eq_getElem?_getD, List.getElem?_eq_getElem (by omega)]
        rfl
      have hsz : (cur.toList.take (n * s) ++ news ++ cur.toList.drop (n * s + news.length)).toArray.size = cur.size := by
        simp only [List.size_toArray, List.length_append, hlt, List.length_drop, Array.length_toList]
        omega
      have hblk := setRow_heap w g cur (cur.toList.take (n * s) ++ news ++ cur.toList.drop (n * s + news.length)).toArray tb _ hg
      generalize (cur.toList.take (n * s) ++ news ++ cur.toList.drop (n * s + news.length)).toArray = cur' at *
      refine ⟨_, _, hr, .inr ⟨g, cap, cur', rfl, hblk, hroom, hcm, by omega, fun j hj => ?_⟩, ⟨rfl, rfl, rfl, .inl ⟨g, cur, cur', rfl, rfl, hg, hblk, hsz, hcur, by simp [World.setRow], fun k hk => setRow_other w g k _ hk⟩⟩⟩
      by_cases e1 : j < n * s
      · simp only [if_pos e1]
        rw [hcur j (.inl e1), hf j e1]
      · simp only [if_neg e1]
        exact hnew j (by omega) (by omega)
    · have hol : (cur.toList.take (n * s)).length = n * s := by
        have := Nat.mul_le_mul_right s hnc
        simp; omega
      have holds : ∀ j x, (cur.toList.take (n * s))[j]? = some x → w.cell? ((⟨g, 0, none⟩ : Addr).add j) = some x := by
        intro j x hj
        rw [addr0]
        simp only [World.cell?, hg]
        rw [List.getElem?_take] at hj
        split at hj
        · simpa using hj
        · cases hj
      have hr := run_append_grow (P := P) w t ty e i z ht hi hz ⟨g, 0, none⟩ n cap (cur.toList.take (n * s)) (by rw [hsize]; omega) holds ad m mc news (by rw [hsize]; exact hl) hnews (by omega) (by omega) (by rw [hby]; exact growslice_fits (by omega) hn)
      have hge := grownCap_ge w (n + m) cap e
      have hcm2 : grownCap w (n + m) cap e ≤ maxLen := grownCap_le_maxLen w (n + m) cap e hml
      refine ⟨_, _, hr, .inr ⟨w.heap.size, _, _, rfl, heap_alloc_new w.drew _, hge, hcm2, ?_, fun j hj => ?_⟩, ⟨rfl, rfl, rfl, .inr ⟨rfl, by simp, fun k hk => heap_alloc_old w.drew _ hk⟩⟩⟩
      · simp only [Array.size_append, List.size_toArray, size_zeroCells, hzs, hol, hl]
        rw [← Nat.add_mul, ← Nat.add_mul]
        congr 1
        omega
      · rw [Array.getElem?_append_left (by simp only [Array.size_append, List.size_toArray, hol, hl]; omega)]
        by_cases e1 : j < n * s
        · simp only [if_pos e1]
          rw [← hf j e1, Array.getElem?_append_left (by simp only [List.size_toArray, hol]; omega), List.getElem?_toArray, List.getElem?_take, if_pos e1]
          simp
        · simp only [if_neg e1]
          rw [Array.getElem?_append_right (by simp only [List.size_toArray, hol]; omega), List.size_toArray, hol, List.getElem?_toArray, List.getD_eq_getElem?_getD, List.getElem?_eq_getElem (by omega)]
          rfl
/-- what a list that grew left as it was -/
structure Gw (w w' : World) (v v' : Value) : Prop where
  os : w'.os = w.os
  tape : w'.tape = w.tape
  output : w'.output = w.output
  size : w.heap.size ≤ w'.heap.size
  oth : ∀ k, k < w.heap.size → v.ownBlock ≠ some k → w'.heap[k]? = w.heap[k]?
  own : ∀ g, v'.ownBlock = some g → v.ownBlock = some g ∨ w.heap.size ≤ g
theorem Gr.gw {e : TypeId} {c m : Nat} {w w' : World} {v v' : Value} (h : Gr e c m w w' v v') : Gw w w' v v' := ⟨h.os, h.tape, h.output, h.size, fun k hk hv => h.other k hk hv, fun g hg => by
  rcases h.how with ⟨g', _, _, h1, h3, _⟩ | ⟨h3, _⟩
  · rw [hg] at h3; cases h3; exact .inl h1
  · rw [hg] at h3; cases h3; exact .inr (Nat.le_refl _)⟩
theorem Gw.refl (w : World) (v : Value) : Gw w w v v := ⟨rfl, rfl, rfl, Nat.le_refl _, fun _ _ _ => rfl, fun g hg => .inl hg⟩
theorem run_append_zero {P : Program} {w : World} (ty t e : TypeId) (i : TypeInfo) (ht : P.underlying t = some (.slice e)) (hi : P.info? e = some i) (d : Option Addr) (n cap : Nat) (hn : n ≤ cap) (a : Option Addr) (c : Nat) :
    (Builtin.append_ #[t, t] ty #[.slice d n cap, .slice a 0 c]).run P w = .ok (.slice d n cap) w := by
  cases a with
  | none => cases d <;> simp [Builtin.append_, run_underlying ht, sizeOf, typeInfo, hi, Builtin.lenOf, Builtin.firstCells, storeCells, hn]
  | some x =>
    have hf := run_firstCells_some (P := P) w i.size 0 x 0 c [] (by simp) (fun j v h => by simp at h)
    cases d <;> simp [Builtin.append_, run_underlying ht, sizeOf, typeInfo, hi, Builtin.lenOf, hf, storeCells, hn]
theorem run_append_bytes {P : Program} {w : World} (ty t : TypeId) (i : TypeInfo) (ht : P.underlying t = some (.slice 5)) (hi : P.info? 5 = some i) (hz : i.zero = some (.int .u8 0)) (hsize : i.size = 1) (hby : i.bytes = 1)
    (v : Value) (n : Nat) (f : Nat → Value) (h : Rws w 5 1 v n f) (a : Option Addr) (c : Nat) (l : List Nat) (hB : Bytes w a l) (hn : n + l.length ≤ 140737488355328) :
    ∃ v' w', (Builtin.append_ #[t, t] ty #[v, .slice a l.length c]).run P w = .ok v' w' ∧ Rws w' 5 1 v' (n + l.length) (fun k => if k < n then f k else byV l (k - n)) ∧ Gw w w' v v' := by
  rcases List.eq_nil_or_concat l with rfl | hl
  · obtain ⟨d, cap, rfl⟩ := h.shape
    have hc : n ≤ cap := by
      rcases h with ⟨e, h0⟩ | ⟨b, c2, cur, e, _, h2, _⟩
      · omega
      · cases e; exact h2
    refine ⟨_, _, run_append_zero ty t 5 i ht hi d n cap hc a c, ?_, Gw.refl _ _⟩
    exact h.congr (fun k hk => by rw [if_pos (by omega)])
  · have hp : 0 < l.length := by obtain ⟨L, b, rfl⟩ := hl; simp
    rcases hB with rfl | ⟨b, off, rfl, hb, hc⟩
    · simp at hp
    · obtain ⟨v', w', r1, r2, r3⟩ := run_append_rws_at (P := P) (w := w) ty t 5 i (.int .u8 0) 1 1 ht hi hz hsize hby rfl 5 v n f h (.inl rfl) ⟨b, off, none⟩ l.length c (cellsOf l) hp (by unfold cellsOf; simp) (fun j x hx => by
        have hj : j < l.length := by have := (List.getElem?_eq_some_iff.1 hx).1; simpa [cellsOf] using this
        rw [add_plain, hc j hj]
        unfold cellsOf at hx
        rw [List.getElem?_map, List.getElem?_eq_getElem hj] at hx
        rw [List.getD_eq_getElem?_getD, List.getElem?_eq_getElem hj]
        exact hx) (fun x hx => by
        unfold cellsOf at hx
        obtain ⟨y, _, rfl⟩ := List.mem_map.1 hx
        rfl) (by omega) (by omega)
      refine ⟨v', w', r1, r2.congr (fun k hk => ?_), r3.gw⟩
      by_cases q : k < n
      · rw [if_pos (by omega), if_pos q]
      · rw [if_neg (by omega), if_neg q]
        have hj : k - n * 1 < l.length := by omega
        unfold cellsOf byV
        rw [List.getD_eq_getElem?_getD, List.getElem?_map, List.getElem?_eq_getElem hj, List.getD_eq_getElem?_getD, show k - n = k - n * 1 by omega, List.getElem?_eq_getElem hj]
        rfl
theorem append_bytes {P : Program} {w : World} {ops : Array Oper} {rest : List Oper} {o : Oper} {act : Act} {Q : Exit → Act → World → Prop} (hgd : o.guard = none) (so x : Operand) (t : TypeId) (ho : o.op = .call { callee := .builtin .append, args := #[so, x], argTypes := #[t, t] })
    (i : TypeInfo) (ht : P.underlying t = some (.slice 5)) (hi : P.info? 5 = some i) (hz : i.zero = some (.int .u8 0)) (hsize : i.size = 1) (hby : i.bytes = 1)
    (v : Value) (n : Nat) (f : Nat → Value) (hs : act.eval so = v) (h : Rws w 5 1 v n f) (a : Option Addr) (c : Nat) (l : List Nat) (hx : act.eval x = .slice a l.length c) (hB : Bytes w a l) (hn : n + l.length ≤ 140737488355328)
    (hk : ∀ v' w', Rws w' 5 1 v' (n + l.length) (fun k => if k < n then f k else byV l (k - n)) → Gw w w' v v' → wpList P ops Q rest (act.put o.dst v') w') : wpList P ops Q (o :: rest) act w := by
  refine wpList_plain hgd fun _ hK => ?_
  obtain ⟨v', w', hr, h2, h3⟩ := run_append_bytes (P := P) (w := w) o.type t i ht hi hz hsize hby v n f h a c l hB hn
  exact wp_appended so x t ho _ _ hs hx _ _ hr (hK _ _ (hk v' w' h2 h3))
theorem step_append_bytes {P : Program} {ops : Array Oper} {o : Oper} {act : Act} {w : World} {K : Act → World → Prop} {Q : Exit → Act → World → Prop} {E : Prop} (hg : o.guard = none) (so x : Operand) (t : TypeId) (ho : o.op = .call { callee := .builtin .append, args := #[so, x], argTypes := #[t, t] })
    (i : TypeInfo) (ht : P.underlying t = some (.slice 5)) (hi : P.info? 5 = some i) (hz : i.zero = some (.int .u8 0)) (hsize : i.size = 1) (hby : i.bytes = 1)
    (v : Value) (n : Nat) (f : Nat → Value) (hs : act.eval so = v) (h : Rws w 5 1 v n f) (a : Option Addr) (c : Nat) (l : List Nat) (hx : act.eval x = .slice a l.length c) (hB : Bytes w a l) (hn : n + l.length ≤ 140737488355328)
    (hk : ∀ v' w', Rws w' 5 1 v' (n + l.length) (fun k => if k < n then f k else byV l (k - n)) → Gw w w' v v' → K (act.put o.dst v') w') : if Region.wanted o (yielded ops act.tmps) = true then Oper.wp P o act w K Q else E := by
  have hw : Region.wanted o (yielded ops act.tmps) = true := by simp [Region.wanted, hg]
  rw [if_pos hw]
  obtain ⟨v', w', hr, h2, h3⟩ := run_append_bytes (P := P) (w := w) o.type t i ht hi hz hsize hby v n f h a c l hB hn
  exact wp_appended so x t ho _ _ hs hx _ _ hr (hk v' w' h2 h3)
theorem Rws.none' {w : World} {t : TypeId} {v : Value} {n : Nat} {f : Nat → Value} (h : Rws w t 1 v n f) (f' : Nat → Value) : ∃ a cap, v = .slice a n cap ∧ Rws w t 1 (.slice a 0 cap) 0 f' := by
  rcases h with ⟨rfl, h0⟩ | ⟨b, cap, cur, rfl, h1, h2, h3, h4, h5⟩
  · exact ⟨none, 0, by rw [h0], .inl ⟨rfl, rfl⟩⟩
  · exact ⟨_, cap, rfl, .inr ⟨b, cap, cur, rfl, h1, Nat.zero_le _, h3, h4, fun k hk => by omega⟩⟩
/-- what has changed lies in S, or is new -/
structure Kept (S : Nat → Prop) (w w' : World) : Prop where
  os : w'.os = w.os
  tape : w'.tape = w.tape
  output : w'.output = w.output
  size : w.heap.size ≤ w'.heap.size
  blk : ∀ b, b < w.heap.size → ¬ S b → w'.heap[b]? = w.heap[b]?
theorem Kept.refl (S : Nat → Prop) (w : World) : Kept S w w := ⟨rfl, rfl, rfl, Nat.le_refl _, fun _ _ _ => rfl⟩
theorem Kept.trans {S : Nat → Prop} {w w' w'' : World} (h : Kept S w w') (h' : Kept S w' w'') : Kept S w w'' := ⟨h'.os.trans h.os, h'.tape.trans h.tape, h'.output.trans h.output, Nat.le_trans h.size h'.size, fun b hb hS => (h'.blk b (Nat.lt_of_lt_of_le hb h.size) hS).trans (h.blk b hb hS)⟩
theorem Kept.below {S : Nat → Prop} {w w' : World} (h : Below w.heap.size w w') : Kept S w w' := ⟨h.os, h.tape, h.output, h.size, fun b hb _ => h.block b hb⟩
theorem Gw.kept {w w' : World} {v v' : Value} {S : Nat → Prop} (h : Gw w w' v v') (hS : ∀ g, v.ownBlock = some g → S g) : Kept S w w' := ⟨h.os, h.tape, h.output, h.size, fun b hb hs => h.oth b hb (fun e => hs (hS b e))⟩
theorem Kept.put {S : Nat → Prop} {w : World} {g k : Nat} {u : Value} (hg : S g) : Kept S w (w.setCell ⟨g, k, none⟩ u) := ⟨rfl, rfl, rfl, by simp only [World.setCell, Array.size_modify]; exact Nat.le_refl _, fun b hb hs => setCell_else _ _ _ _ _ (fun e => hs (by rw [e]; exact hg))⟩
end Go.Proofs.YtidfbelckdlbhabGreat
namespace Go.Proofs.YtidfbelckdlbhabGreat
open Go.ChangeShapes Go.WideShapes Go.ChangeAt Go.RowKit
set_option linter.unusedVariables false
set_option linter.unusedSimpArgs false
set_option maxRecDepth 20000
set_option maxHeartbeats 4000000

/-- a place at pa, all of whose memory is S's -/
structure PlAt (w : World) (S : Nat → Prop) (pa : Nat) (ov iv : Value) (no ni : Nat) (O I : Nat → Value) (l : List Nat) : Prop where
  at' : w.heap[pa]? = some (.cells #[ov, iv] 76 (0, 0))
  orow : Rws w 34 1 ov no O
  irow : Rws w 34 1 iv ni I
  ent : 0 < ni → Rws w 5 1 (I 0) l.length (byV l)
  oi : ∀ g, ov.ownBlock = some g → iv.ownBlock ≠ some g
  sp : S pa
  so : ∀ g, ov.ownBlock = some g → S g
  si : ∀ g, iv.ownBlock = some g → S g
  se : 0 < ni → ∀ g, (I 0).ownBlock = some g → S g
  one : no ≤ 1 ∧ ni ≤ 1
theorem PlAt.mono {w : World} {S S' : Nat → Prop} {pa : Nat} {ov iv : Value} {no ni : Nat} {O I : Nat → Value} {l : List Nat} (h : PlAt w S pa ov iv no ni O I l) (hS : ∀ b, b < w.heap.size → S b → S' b) : PlAt w S' pa ov iv no ni O I l :=
  ⟨h.at', h.orow, h.irow, h.ent, h.oi, hS _ (block_lt h.at') h.sp, fun g hg => hS _ (h.orow.lt g hg) (h.so g hg), fun g hg => hS _ (h.irow.lt g hg) (h.si g hg), fun hn g hg => hS _ ((h.ent hn).lt g hg) (h.se hn g hg), h.one⟩
/-- what others change leaves a place as it was -/
theorem PlAt.same {w w' : World} {S : Nat → Prop} {pa : Nat} {ov iv : Value} {no ni : Nat} {O I : Nat → Value} {l : List Nat} (h : PlAt w S pa ov iv no ni O I l) (hb : ∀ b, b < w.heap.size → S b → w'.heap[b]? = w.heap[b]?) : PlAt w' S pa ov iv no ni O I l :=
  ⟨by rw [hb _ (block_lt h.at') h.sp]; exact h.at', h.orow.same (fun g hg => hb g (h.orow.lt g hg) (h.so g hg)), h.irow.same (fun g hg => hb g (h.irow.lt g hg) (h.si g hg)), fun hn => (h.ent hn).same (fun g hg => hb g ((h.ent hn).lt g hg) (h.se hn g hg)), h.oi, h.sp, h.so, h.si, h.se, h.one⟩
theorem PlAt.cells {w : World} {S : Nat → Prop} {pa : Nat} {ov iv : Value} {no ni : Nat} {O I : Nat → Value} {l : List Nat} (h : PlAt w S pa ov iv no ni O I l) : w.cell? ⟨pa, 0, none⟩ = some ov ∧ w.cell? ⟨pa, 1, none⟩ = some iv ∧ (∀ j, w.frozen? ⟨pa, j, none⟩ = false) := by
  refine ⟨?_, ?_, fun j => ?_⟩
  · rw [cell_of_row _ _ _ _ _ _ h.at']; rfl
  · rw [cell_of_row _ _ _ _ _ _ h.at']; rfl
  · simp only [World.frozen?, h.at']; simp
/-- outer[:0] -/
theorem PlAt.cut {w : World} {S : Nat → Prop} {pa : Nat} {oa : Option Addr} {oc : Nat} {iv : Value} {no ni : Nat} {O I : Nat → Value} {l : List Nat} (h : PlAt w S pa (.slice oa no oc) iv no ni O I l) :
    PlAt (w.setCell ⟨pa, 0, none⟩ (.slice oa 0 oc)) S pa (.slice oa 0 oc) iv 0 ni O I l ∧ Kept S w (w.setCell ⟨pa, 0, none⟩ (.slice oa 0 oc)) := by
  have els : ∀ b, b ≠ pa → (w.setCell ⟨pa, 0, none⟩ (.slice oa 0 oc)).heap[b]? = w.heap[b]? := fun b hb => setCell_else _ _ _ _ _ hb
  have hO : (Value.slice oa 0 oc).ownBlock = (Value.slice oa no oc).ownBlock := by cases oa <;> rfl
  obtain ⟨a, c, he, hz⟩ := h.orow.none' O
  cases he
  refine ⟨⟨by rw [setCell_block _ _ _ _ _ _ _ h.at']; rfl, hz.same' h.at' (by decide) (fun g _ hx => els g hx), h.irow.same' h.at' (by decide) (fun g _ hx => els g hx), fun hn => (h.ent hn).same' h.at' (by decide) (fun g _ hx => els g hx), by rw [hO]; exact h.oi, h.sp, by rw [hO]; exact h.so, h.si, h.se, Nat.zero_le _, h.one.2⟩, Kept.put h.sp⟩
theorem Put.kept {S : Nat → Prop} {w w' : World} {px i : Nat} {cs : Array Value} {t e : TypeId} {v v' : Value} {n : Nat} {f : Nat → Value} (h : Put w w' px i cs t e v v' n f) (hp : S px) (hv : ∀ g, v.ownBlock = some g → S g) : Kept S w w' :=
  ⟨h.os, h.tape, h.output, h.size, fun b hb hs => h.blk b hb (fun e => hs (by rw [e]; exact hp)) (fun e => hs (hv b e))⟩
/-- a first list is made -/
theorem PlAt.first {w wA w2 : World} {S : Nat → Prop} {pa : Nat} {ov iv v' : Value} {O I : Nat → Value} {l : List Nat} {mk : Array Value} (h : PlAt w S pa ov iv 0 0 O I l) (hS : ∀ b, w.heap.size ≤ b → S b) (hm : mk.size = 64) (hA : Below w.heap.size w wA) (hr : wA.heap[w.heap.size]? = some (.cells mk 5 (0, 0)))
    (hL : Rws w2 34 1 v' (0 + 1) (fun k => if k < 0 * 1 then I k else [Value.slice (some ⟨w.heap.size, 0, none⟩) 0 64].getD (k - 0 * 1) undef)) (hG : Gr 34 (0 * 1) 1 wA w2 iv v') :
    w2.cell? ⟨pa, 1, none⟩ = some iv ∧ w2.frozen? ⟨pa, 1, none⟩ = false ∧ Hid (PlAt (w2.setCell ⟨pa, 1, none⟩ v') S pa ov v' 0 1 O (fun _ => .slice (some ⟨w.heap.size, 0, none⟩) 0 64) [] ∧ Kept S w (w2.setCell ⟨pa, 1, none⟩ v')) := by
  obtain ⟨y, z, p⟩ := Put.of (i := 1) h.at' (by decide) hA h.irow hL hG
  have hlt := block_lt h.at'
  have hne : iv.ownBlock ≠ some w.heap.size := fun e => by have := h.irow.lt _ e; omega
  have r2 : (w2.setCell ⟨pa, 1, none⟩ v').heap[w.heap.size]? = some (.cells mk 5 (0, 0)) := by
    rw [setCell_else _ _ _ _ _ (by omega), hG.other _ (block_lt hr) hne]
    exact hr
  refine ⟨y, z, hide ⟨⟨p.at', h.orow.same' h.at' (by decide) (fun g hg hx => p.blk g (h.orow.lt g hg) hx (h.oi g hg)), p.row.congr (fun k hk => ?_), fun _ => .inr ⟨w.heap.size, 64, mk, rfl, r2, Nat.zero_le _, by decide, by omega, fun k hk => by simp at hk⟩, fun g h1 h2 => ?_, h.sp, h.so, fun g hg => ?_, fun _ g hg => ?_, Nat.zero_le _, Nat.le_refl _⟩, p.kept h.sp h.si⟩⟩
  · have : k = 0 := by omega
    subst this
    rfl
  · rcases p.own g h2 with q | q
    · exact h.oi g h1 q
    · have := h.orow.lt g h1
      omega
  · rcases p.own g hg with q | q
    · exact h.si g q
    · exact hS g q
  · simp [Value.ownBlock] at hg
    exact hS g (by omega)
/-- the bytes are laid there -/
theorem PlAt.laid {w w2 : World} {S : Nat → Prop} {pa ig ic : Nat} {ov v v' : Value} {O I : Nat → Value} {l l' : List Nat} (h : PlAt w S pa ov (.slice (some ⟨ig, 0, none⟩) 1 ic) 0 1 O I l) (hS : ∀ b, w.heap.size ≤ b → S b) (hv : v.ownBlock = (I 0).ownBlock)
    (hL : Rws w2 5 1 v' (0 + l'.length) (fun k => if k < 0 then byV l k else byV l' (k - 0))) (hG : Gw w w2 v v') :
    w2.cell? ⟨pa, 1, none⟩ = some (.slice (some ⟨ig, 0, none⟩) 1 ic) ∧ w2.cell? ⟨ig, 0, none⟩ = some (I 0) ∧ w2.frozen? ⟨ig, 0, none⟩ = false ∧ Hid (PlAt (w2.setCell ⟨ig, 0, none⟩ v') S pa ov (.slice (some ⟨ig, 0, none⟩) 1 ic) 0 1 O (fun _ => v') l' ∧ Kept S w (w2.setCell ⟨ig, 0, none⟩ v')) := by
  have ho : (Value.slice (some ⟨ig, 0, none⟩) 1 ic).ownBlock = some ig := rfl
  have hlt := h.irow.lt ig ho
  have hpa := block_lt h.at'
  have e0 := h.ent (by decide)
  obtain ⟨c, hc⟩ := h.irow.type ig ho
  have npa : pa ≠ ig := fun q => by
    have := h.at'
    rw [q, hc] at this
    cases this
  have oth : ∀ b, b < w.heap.size → (I 0).ownBlock ≠ some b → w2.heap[b]? = w.heap[b]? := fun b hb hI => hG.oth b hb (by rw [hv]; exact hI)
  have i2 : Rws w2 34 1 (.slice (some ⟨ig, 0, none⟩) 1 ic) 1 I := h.irow.same (fun g hg => oth g (h.irow.lt g hg) (fun q => e0.apart h.irow (by decide) g q hg))
  obtain ⟨c2, hc2⟩ := i2.type ig ho
  have v5 : Rws w2 5 1 v' l'.length (byV l') := by
    rw [Nat.zero_add] at hL
    exact hL.congr (fun k hk => rfl)
  have els : ∀ b, b ≠ ig → (w2.setCell ⟨ig, 0, none⟩ v').heap[b]? = w2.heap[b]? := fun b hb => setCell_else _ _ _ _ _ hb
  have hpI : (I 0).ownBlock ≠ some pa := fun q => by
    obtain ⟨c, hc⟩ := e0.type pa q
    rw [h.at'] at hc
    cases hc
  refine ⟨(World.cell?_of_block (w := w) (oth pa hpa hpI)).trans h.cells.2.1, ?_, by simp only [World.frozen?, hc2]; simp, hide ⟨⟨?_, ?_, (i2.put ho 0 v').congr (fun k hk => by rw [if_pos (by omega)]), fun _ => v5.same' hc2 (by decide) (fun g _ hx => els g hx), h.oi, h.sp, h.so, h.si, fun _ g hg => ?_, h.one⟩, (hG.kept (fun g hg => h.se (by decide) g (by rw [← hv]; exact hg))).trans (Kept.put (h.si ig ho))⟩⟩
  · obtain ⟨g, cp, hg1, _, _, hg3⟩ := i2.at (by decide)
    cases hg1
    exact hg3 0 (by decide)
  · rw [els pa npa, oth pa hpa hpI]
    exact h.at'
  · exact h.orow.same (fun g hg => by rw [els g (fun q => h.oi g hg (by rw [q]; rfl)), oth g (h.orow.lt g hg) (fun q => e0.apart h.orow (by decide) g q hg)])
  · rcases hG.own g hg with q | q
    · exact h.se (by decide) g (by rw [← hv]; exact q)
    · exact hS g q
/-- and told in outer -/
theorem PlAt.told {w wA w2 : World} {S : Nat → Prop} {pa : Nat} {ov iv v v' : Value} {O : Nat → Value} {l : List Nat} (h : PlAt w S pa ov iv 0 1 O (fun _ => v) l) (hS : ∀ b, w.heap.size ≤ b → S b) (hA : Below w.heap.size w wA)
    (hL : Rws w2 34 1 v' (0 + 1) (fun k => if k < 0 * 1 then O k else [v].getD (k - 0 * 1) undef)) (hG : Gr 34 (0 * 1) 1 wA w2 ov v') :
    w2.cell? ⟨pa, 0, none⟩ = some ov ∧ w2.frozen? ⟨pa, 0, none⟩ = false ∧ Hid (PlAt (w2.setCell ⟨pa, 0, none⟩ v') S pa v' iv 1 1 (fun _ => v) (fun _ => v) l ∧ Kept S w (w2.setCell ⟨pa, 0, none⟩ v')) := by
  obtain ⟨y, z, p⟩ := Put.of (i := 0) h.at' (by decide) hA h.orow hL hG
  refine ⟨y, z, hide ⟨⟨p.at', p.row.congr (fun k hk => ?_), h.irow.same' h.at' (by decide) (fun g hg hx => p.blk g (h.irow.lt g hg) hx (fun q => h.oi g q hg)), fun hn => (h.ent hn).same' h.at' (by decide) (fun g hg hx => p.blk g ((h.ent hn).lt g hg) hx (fun q => (h.ent hn).apart h.orow (by decide) g hg q)), fun g h1 h2 => ?_, h.sp, fun g hg => ?_, h.si, h.se, Nat.le_refl _, Nat.le_refl _⟩, p.kept h.sp h.so⟩⟩
  · have : k = 0 := by omega
    subst this
    rfl
  · rcases p.own g h1 with q | q
    · exact h.oi g q h2
    · have := h.irow.lt g h2
      omega
  · rcases p.own g hg with q | q
    · exact h.so g q
    · exact hS g q
/-- a region ends so, and not otherwise -/
def OnlyN (R : Act → World → Prop) : Exit → Act → World → Prop
  | .normal, a, w => R a w
  | _, _, _ => False
theorem OnlyN.mk {R : Act → World → Prop} {a : Act} {w : World} (h : R a w) : OnlyN R .normal a w := h
theorem OnlyN.elim {R : Act → World → Prop} {e : Exit} {a : Act} {w : World} (h : OnlyN R e a w) : e = .normal ∧ R a w := by
  cases e with
  | normal => exact ⟨rfl, h⟩
  | _ => exact False.elim h
theorem once2 {P : Program} {c : Code} {Q : Exit → Act → World → Prop} {a : Act} {w : World} {α β : Type} (A : α → β → Act) (R : α → β → World → Prop) (h : c.wp P (OnlyN fun a' w' => ∃ x y, a' = A x y ∧ R x y w') a w) (hq : ∀ x y w', R x y w' → Q .normal (A x y) w') : c.wp P Q a w :=
  Code.wp_mono (fun e a w h => by
    obtain ⟨rfl, x, y, rfl, hR⟩ := OnlyN.elim h
    exact hq x y w hR) h
theorem Gw.drew' {w w' : World} {v v' : Value} (h : Gw w.drew w' v v') : Gw w w' v v' := ⟨h.os, h.tape, h.output, h.size, h.oth, h.own⟩
theorem Bytes.kept {S : Nat → Prop} {w w' : World} {a : Option Addr} {l : List Nat} (h : Bytes w a l) (hk : Kept S w w') (hs : ∀ b off, 0 < l.length → a = some ⟨b, off, none⟩ → ¬ S b) : Bytes w' a l := by
  rcases h with h | ⟨b, off, rfl, hb, hc⟩
  · exact .inl h
  · refine .inr ⟨b, off, rfl, Nat.lt_of_lt_of_le hb hk.size, fun i hi => ?_⟩
    rw [← hc i hi]
    exact World.cell?_of_block (hk.blk b hb (hs b off (by omega) rfl))
end Go.Proofs.YtidfbelckdlbhabGreat
